/-
  The given disk of layer 3: its state, and how it lies in memory; its calls that write no sector.
  The given disk of layer 3: Read, Spoil, Arm.
  The given disk of layer 3: one sector's bytes laid anew, where they stay, or where they wait.
  The given disk of layer 3: Flush, Waits.
  The given disk of layer 3: it goes down by a crash.
-/
import Derived.Test.YtkebbjodkhjbmaaGreatHeads
import Derived.Test.YtkebbjodkhjbmaaGreatDone
import Derived.Test.YtkebbjodkhjbmaaGreatDOps
namespace Go.Proofs.YtkebbjodkhjbmaaGreat
open Go.RowKit

/-- What a disk has: what stays, and what waits (of none: nothing), sector by sector; the crash that is armed; how many writes; whether it is down. -/
structure RSt where
  stays : List (List UInt8)
  cache : List (List UInt8)
  write : Int
  keep : List Int
  torn : Int
  at_ : Int
  many : Int
  down : Bool

structure RSt.Ok (s : RSt) : Prop where
  same : s.cache.length = s.stays.length
  few : s.stays.length ≤ 4096
  stay : ∀ l ∈ s.stays, l.length = 128
  wait : ∀ l ∈ s.cache, l.length = 0 ∨ l.length = 128

/-- The disk's blocks: its own, and its two rows. -/
def rfoot (b gS gC : Nat) (k : Nat) : Prop := k = b ∨ k = gS ∨ k = gC

/-- Blocks in which no slice of the given disk lies. -/
class Aside where
  out : Nat → Prop
/-- The slice lies in none of them. -/
def Far [Aside] (v : Value) : Prop := ∀ ad n c, v = .slice (some ad) n c → ¬ Aside.out ad.block
theorem Far.nil [Aside] : Far (.slice none 0 0) := fun _ _ _ e => by cases e
theorem Far.own [Aside] {w : World} {N : Nat} {e : TypeId} {size n : Nat} {v : Value} {xs : List Value} (hl : ∀ k, Aside.out k → k < N) (h : w.ownsRow N e size v n xs) : Far v := by
  rcases h.2 with ⟨rfl, _⟩ | ⟨g, cap, cur, rfl, hb, _⟩
  · exact Far.nil
  · intro ad n c e ho
    injection e with e
    injection e with e
    subst e
    have : g < N := hl _ ho
    omega

structure RD [Aside] (w : World) (b gS gC cS cC : Nat) (kv : Value) (vs ws : List Value) (s : RSt) : Prop where
  ok : s.Ok
  blk : Blk w b 45 #[.slice (some ⟨gS, 0, none⟩) s.stays.length cS, .slice (some ⟨gC, 0, none⟩) s.stays.length cC, .int .i64 s.write, kv, .int .i64 s.torn, .int .i64 s.at_, .int .i64 s.many, .bool s.down]
  sOwn : w.ownsRow 0 36 1 (.slice (some ⟨gS, 0, none⟩) s.stays.length cS) s.stays.length vs
  cOwn : w.ownsRow 0 36 1 (.slice (some ⟨gC, 0, none⟩) s.stays.length cC) s.stays.length ws
  ne : gS ≠ gC
  sHead : Heads w s.stays vs
  cHead : Heads w s.cache ws
  kHead : Head w 3 (s.keep.map iv) kv
  lim : ∀ k, Aside.out k → k < w.heap.size
  far : (∀ v ∈ vs, Far v) ∧ (∀ v ∈ ws, Far v) ∧ Far kv

theorem RD.foot [Aside] {w : World} {b gS gC cS cC : Nat} {kv : Value} {vs ws : List Value} {s : RSt} (h : RD w b gS gC cS cC kv vs ws s) : ∀ k, rfoot b gS gC k → ¬ Typ w k 5 ∧ ¬ Typ w k 3 ∧ k < w.heap.size := by
  rintro k (rfl | rfl | rfl)
  · exact ⟨fun e => absurd (h.blk.typ.ne e) (by decide), fun e => absurd (h.blk.typ.ne e) (by decide), h.blk.typ.lt⟩
  · exact ⟨fun e => absurd ((own_typ h.sOwn).ne e) (by decide), fun e => absurd ((own_typ h.sOwn).ne e) (by decide), (own_typ h.sOwn).lt⟩
  · exact ⟨fun e => absurd ((own_typ h.cOwn).ne e) (by decide), fun e => absurd ((own_typ h.cOwn).ne e) (by decide), (own_typ h.cOwn).lt⟩

theorem RD.keep [Aside] {w w' : World} {S : Nat → Prop} {b gS gC cS cC : Nat} {kv : Value} {vs ws : List Value} {s : RSt} (h : RD w b gS gC cS cC kv vs ws s) (hk : Keep S w w') (hf : ∀ k, rfoot b gS gC k → ¬ S k) (h8 : ∀ k, S k → ¬ Typ w k 5) (hi : ∀ k, S k → ¬ Typ w k 3) : RD w' b gS gC cS cC kv vs ws s :=
  ⟨h.ok, hk.blk h.blk (hf b (.inl rfl)), hk.own h.sOwn (fun k e => by injection e with e; subst e; exact hf gS (.inr (.inl rfl))), hk.own h.cOwn (fun k e => by injection e with e; subst e; exact hf gC (.inr (.inr rfl))), h.ne, h.sHead.keep hk h8, h.cHead.keep hk h8, h.kHead.keep hk hi, fun k ho => Nat.lt_of_lt_of_le (h.lim k ho) hk.size, h.far⟩
theorem RD.below [Aside] {w w' : World} {b gS gC cS cC : Nat} {kv : Value} {vs ws : List Value} {s : RSt} (h : RD w b gS gC cS cC kv vs ws s) (hb : Below w.heap.size w w') : RD w' b gS gC cS cC kv vs ws s :=
  h.keep (Keep.of_below (S := fun _ => False) hb) (fun _ _ h => h) (fun _ h => h.elim) (fun _ h => h.elim)

/-- The given disk at b has state s, in the call's own memory newer than N. -/
def has3 (s : RSt) (a : Int) : Bool := decide (0 ≤ a ∧ a < (s.stays.length : Int))

theorem rhas_any [Aside] (b gS gC cS cC : Nat) (kv : Value) (vs ws : List Value) (s : RSt) (a : Int) (w : World) (h : RD w b gS gC cS cC kv vs ws s) :
    Calls Tryz.prog 134 #[.pointer (some ⟨b, 0, none⟩), .int .i64 a] w fun e w' => e = .returned (.bool (has3 s a)) ∧ w = w' := by
  have c0 : w.cell? ⟨b, 0, none⟩ = some (.slice (some ⟨gS, 0, none⟩) s.stays.length cS) := h.blk.cell 0
  have hf := h.ok.few
  clear h
  unfold has3
  by_cases h0 : 0 ≤ a
  · by_cases h1 : a < (s.stays.length : Int)
    · rw [decide_eq_true ⟨h0, h1⟩]
      generalize s.stays.length = n at *
      go_enter Tryz.func134, Tryz.ntmps134
      go_wp2
      go_ret
      exact ⟨rfl, rfl⟩
    · rw [decide_eq_false (fun h => h1 h.2)]
      generalize s.stays.length = n at *
      go_enter Tryz.func134, Tryz.ntmps134
      go_wp2
      go_ret
      exact ⟨rfl, rfl⟩
  · rw [decide_eq_false (fun h => h0 h.1)]
    go_enter Tryz.func134, Tryz.ntmps134
    go_wp2
    go_ret
    exact ⟨rfl, rfl⟩

end Go.Proofs.YtkebbjodkhjbmaaGreat

namespace Go.Proofs.YtkebbjodkhjbmaaGreat
open Go.RowKit

def readErr3 (s : RSt) (a : Int) : Int := if s.down then 31 else if has3 s a then 0 else 30
/-- What is read of a sector. -/
def seen (s : RSt) (k : Nat) : List UInt8 := if 0 < (s.cache.getD k []).length then s.cache.getD k [] else s.stays.getD k []
def readOut3 (s : RSt) (a : Int) : List UInt8 := if readErr3 s a = 0 then seen s a.toNat else []

theorem get_at {ls : List (List UInt8)} {k : Nat} (h : k < ls.length) : ls[k]? = some (ls.getD k []) := by
  simp [List.getD, List.getElem?_eq_getElem h]
theorem get_mem {ls : List (List UInt8)} {k : Nat} (h : k < ls.length) : ls.getD k [] ∈ ls := List.mem_of_getElem? (get_at h)

section
variable {b gS gC cS cC : Nat} {kv : Value} {vs ws : List Value} {s : RSt} {w : World}

/-- The cells at sector k. -/
theorem RD.sector [Aside] (h : RD w b gS gC cS cC kv vs ws s) {k : Nat} (hk : k < s.stays.length) :
    (∃ v, w.cell? ⟨gS, k, none⟩ = some v ∧ w.frozen? ⟨gS, k, none⟩ = false ∧ Head w 5 ((s.stays.getD k []).map bv) v) ∧
    (∃ v, w.cell? ⟨gC, k, none⟩ = some v ∧ w.frozen? ⟨gC, k, none⟩ = false ∧ Head w 5 ((s.cache.getD k []).map bv) v) := by
  obtain ⟨v, hv, hh⟩ := h.sHead.2 k _ (get_at hk)
  obtain ⟨u, hu, hg⟩ := h.cHead.2 k _ (get_at (by rw [h.ok.same]; exact hk))
  exact ⟨⟨v, (own_at h.sOwn hv).1, (own_at h.sOwn hv).2, hh⟩, ⟨u, (own_at h.cOwn hu).1, (own_at h.cOwn hu).2, hg⟩⟩

set_option maxHeartbeats 1000000 in
theorem rread_any [Aside] (a : Int) (h1 : -9223372036854775808 ≤ a) (h2 : a ≤ 9223372036854775807) (h : RD w b gS gC cS cC kv vs ws s) :
    Calls Tryz.prog 140 #[.pointer (some ⟨b, 0, none⟩), .int .i64 a] w fun e w' => ∃ v, e = .returned (.tuple #[v, .int .i64 (readErr3 s a)]) ∧ Gives w w' v (readOut3 s a) := by
  have c0 : w.cell? ⟨b, 0, none⟩ = some (.slice (some ⟨gS, 0, none⟩) s.stays.length cS) := h.blk.cell 0
  have c1 : w.cell? ⟨b, 1, none⟩ = some (.slice (some ⟨gC, 0, none⟩) s.stays.length cC) := h.blk.cell 1
  have c7 : w.cell? ⟨b, 7, none⟩ = some (.bool s.down) := h.blk.cell 7
  have HH := Lib.hid (rhas_any b gS gC cS cC kv vs ws s a w h)
  have hf := h.ok.few
  cases hd : s.down
  · rw [hd] at c7
    cases hh : has3 s a
    · have he : readErr3 s a = 30 := by unfold readErr3; rw [hd, hh]; rfl
      have ho : readOut3 s a = [] := by unfold readOut3; rw [he]; rfl
      rw [hh] at HH
      rw [he, ho]
      clear h hd hh he ho
      go_enter Tryz.func140, Tryz.ntmps140
      go_wp2_with (go_at_call 134; refine HH.out.mono ?_; rintro e _ ⟨rfl, rfl⟩)
      go_ret2
      exact ⟨_, rfl, Gives.nil w⟩
    · have he : readErr3 s a = 0 := by unfold readErr3; rw [hd, hh]; rfl
      have ho : readOut3 s a = seen s a.toNat := by unfold readOut3; rw [he]; rfl
      have hin : 0 ≤ a ∧ a < (s.stays.length : Int) := of_decide_eq_true hh
      obtain ⟨k, rfl⟩ := Int.eq_ofNat_of_zero_le hin.1
      have hk : k < s.stays.length := by omega
      rw [hh] at HH
      rw [he, ho, Int.toNat_natCast]
      obtain ⟨⟨v, sv, _, AS, cs, rfl, s1, s2, s3, _⟩, ⟨u, cu, _, AC, cc, rfl, d1, d2, d3, _⟩⟩ := h.sector hk
      rw [List.length_map] at sv cu s1 d1 s3 d3
      have l1 : (s.stays.getD k []).length = 128 := h.ok.stay _ (get_mem hk)
      have l2 := h.ok.wait _ (get_mem (k := k) (by rw [h.ok.same]; exact hk))
      by_cases hc : 0 < (s.cache.getD k []).length
      · have hs : seen s k = s.cache.getD k [] := by unfold seen; rw [if_pos hc]
        have l3 : (s.cache.getD k []).length = 128 := by omega
        rw [hs]
        have HT := Lib.hid (twin_any AC cc (s.cache.getD k []).length (s.cache.getD k []) w d3 (by omega))
        generalize hx : s.cache.getD k [] = x at *
        have HL := Lib.hid l3
        rw [l3] at cu HT
        generalize s.stays.length = n at *
        clear h hd hh he ho hs d3 s3 l2 l1 l3 hin hx sv s1 d1
        go_enter Tryz.func140, Tryz.ntmps140
        go_wp2_with (first
          | (go_at_call 134; refine HH.out.mono ?_; rintro e _ ⟨rfl, rfl⟩)
          | (go_at_call 18; refine HT.out.mono ?_; rintro e w2 ⟨A', c', rfl, ho, hb⟩; have HO := Lib.hid ho; have HB := Lib.hid hb; clear ho hb))
        go_ret2
        exact ⟨_, rfl, A', c', by rw [HL.out]; rfl, by rw [HL.out]; exact HO.out, HB.out⟩
      · have hs : seen s k = s.stays.getD k [] := by unfold seen; rw [if_neg hc]
        have l3 : (s.cache.getD k []).length = 0 := by omega
        rw [hs]
        have HT := Lib.hid (twin_any AS cs (s.stays.getD k []).length (s.stays.getD k []) w s3 (by omega))
        generalize hx : s.stays.getD k [] = x at *
        have HL := Lib.hid l1
        rw [l1] at sv HT
        rw [l3] at cu
        generalize s.stays.length = n at *
        clear h hd hh he ho hs d3 s3 l2 l1 l3 hin hx s1 d1 hc
        go_enter Tryz.func140, Tryz.ntmps140
        go_wp2_with (first
          | (go_at_call 134; refine HH.out.mono ?_; rintro e _ ⟨rfl, rfl⟩)
          | (go_at_call 18; refine HT.out.mono ?_; rintro e w2 ⟨A', c', rfl, ho, hb⟩; have HO := Lib.hid ho; have HB := Lib.hid hb; clear ho hb))
        go_ret2
        exact ⟨_, rfl, A', c', by rw [HL.out]; rfl, by rw [HL.out]; exact HO.out, HB.out⟩
  · have he : readErr3 s a = 31 := by unfold readErr3; rw [hd]; rfl
    have ho : readOut3 s a = [] := by unfold readOut3; rw [he]; rfl
    rw [hd] at c7
    rw [he, ho]
    clear h hd he ho HH
    go_enter Tryz.func140, Tryz.ntmps140
    go_wp2
    go_ret2
    exact ⟨_, rfl, Gives.nil w⟩
end

end Go.Proofs.YtkebbjodkhjbmaaGreat

namespace Go.Proofs.YtkebbjodkhjbmaaGreat
open Go.RowKit

theorem own_mono3 {w : World} {base base' : Nat} {e : TypeId} {size : Nat} {v : Value} {n : Nat} {xs : List Value} (h : w.ownsRow base e size v n xs) (hb : base' ≤ base) : w.ownsRow base' e size v n xs :=
  ⟨h.1, h.2.imp id fun ⟨g, cap, cur, h1, h2, h3⟩ => ⟨g, cap, cur, h1, Nat.le_trans hb h2, h3⟩⟩

section
variable {b gS gC cS cC : Nat} {kv : Value} {vs ws : List Value} {s : RSt} {w : World}

theorem RD.putS [Aside] (h : RD w b gS gC cS cC kv vs ws s) {k : Nat} {l : List UInt8} {v : Value} (hl : l.length = 128) (hv : Head w 5 (l.map bv) v) (hF : Far v) :
    RD (w.setCell ⟨gS, k, none⟩ v) b gS gC cS cC kv (vs.set k v) ws { s with stays := s.stays.set k l } := by
  have hlen : (s.stays.set k l).length = s.stays.length := List.length_set
  have hk : Keep (fun i => i = gS) w (w.setCell ⟨gS, k, none⟩ v) := (Keep.refl _ _).setCell _ _ (fun _ => rfl)
  have hf := h.foot gS (.inr (.inl rfl))
  have h8 : ∀ i, i = gS → ¬ Typ w i 5 := fun i e => by subst e; exact hf.1
  have hi : ∀ i, i = gS → ¬ Typ w i 3 := fun i e => by subst e; exact hf.2.1
  have hbs : b ≠ gS := fun e => absurd (h.blk.typ.ne (e ▸ own_typ h.sOwn)) (by decide)
  refine ⟨⟨by rw [hlen]; exact h.ok.same, by rw [hlen]; exact h.ok.few, fun m hm => ?_, h.ok.wait⟩, ?_, ?_, ?_, h.ne, ?_, h.cHead.keep hk h8, h.kHead.keep hk hi, fun k ho => Nat.lt_of_lt_of_le (h.lim k ho) hk.size, fun v hv => ?_, h.far.2⟩
  · rcases List.mem_or_eq_of_mem_set hm with hm | rfl
    · exact h.ok.stay _ hm
    · exact hl
  · have := h.blk.far (p := ⟨gS, k, none⟩) hbs v
    rw [hlen]
    exact this
  · rw [hlen]
    exact own_put h.sOwn v
  · rw [hlen]
    exact hk.own h.cOwn (fun i e => by injection e with e; subst e; exact fun e => h.ne e.symm)
  · exact (h.sHead.keep hk h8).set_ k (hv.keep hk h8)
  · rcases List.mem_or_eq_of_mem_set hv with hv | rfl
    · exact h.far.1 _ hv
    · exact hF

/-- What waits at sector k lies in none of the blocks that are left aside. -/
theorem RD.farC [Aside] (h : RD w b gS gC cS cC kv vs ws s) {k : Nat} (hk : k < s.stays.length) {u : Value} (hc : w.cell? ⟨gC, k, none⟩ = some u) : Far u := by
  obtain ⟨u', hu, _⟩ := h.cHead.2 k _ (get_at (by rw [h.ok.same]; exact hk))
  have := (own_at h.cOwn hu).1
  rw [hc] at this
  injection this with this
  rw [this]
  exact h.far.2.1 _ (List.mem_of_getElem? hu)
theorem RD.putC [Aside] (h : RD w b gS gC cS cC kv vs ws s) {k : Nat} {l : List UInt8} {v : Value} (hl : l.length = 0 ∨ l.length = 128) (hv : Head w 5 (l.map bv) v) (hF : Far v) :
    RD (w.setCell ⟨gC, k, none⟩ v) b gS gC cS cC kv vs (ws.set k v) { s with cache := s.cache.set k l } := by
  have hlen : (s.cache.set k l).length = s.cache.length := List.length_set
  have hk : Keep (fun i => i = gC) w (w.setCell ⟨gC, k, none⟩ v) := (Keep.refl _ _).setCell _ _ (fun _ => rfl)
  have hf := h.foot gC (.inr (.inr rfl))
  have h8 : ∀ i, i = gC → ¬ Typ w i 5 := fun i e => by subst e; exact hf.1
  have hi : ∀ i, i = gC → ¬ Typ w i 3 := fun i e => by subst e; exact hf.2.1
  have hbs : b ≠ gC := fun e => absurd (h.blk.typ.ne (e ▸ own_typ h.cOwn)) (by decide)
  refine ⟨⟨by rw [hlen]; exact h.ok.same, h.ok.few, h.ok.stay, fun m hm => ?_⟩, h.blk.far (p := ⟨gC, k, none⟩) hbs v, ?_, own_put h.cOwn v, h.ne, h.sHead.keep hk h8, ?_, h.kHead.keep hk hi, fun k ho => Nat.lt_of_lt_of_le (h.lim k ho) hk.size, h.far.1, fun v hv => ?_, h.far.2.2⟩
  · rcases List.mem_or_eq_of_mem_set hm with hm | rfl
    · exact h.ok.wait _ hm
    · exact hl
  · exact hk.own h.sOwn (fun i e => by injection e with e; subst e; exact fun e => h.ne e)
  · exact (h.cHead.keep hk h8).set_ k (hv.keep hk h8)
  · rcases List.mem_or_eq_of_mem_set hv with hv | rfl
    · exact h.far.2.1 _ hv
    · exact hF
/-- Operation 6's value: bytes in memory of their own, until operation 8 has laid them. -/
def putR (B : Nat) (l : List UInt8) (vals : List Value) (dn : Nat → Bool) (i : Nat) (v : Value) (w' : World) : Prop :=
  match i with
  | 6 => ∃ A c, v = .slice A 128 c ∧ (dn 8 = false → w'.ownsRow B 5 1 (.slice A 128 c) 128 (l.map bv))
  | i => v = vals.getD i undef
theorem putR_mono {B : Nat} {l : List UInt8} {vals : List Value} {dn : Nat → Bool} {i : Nat} (j : Nat) (u : Value) (w : World) (h : putR B l vals dn j u w) : putR B l vals (upd dn i) j u w := by
  by_cases hj : j = 6
  · subst hj; obtain ⟨A, c, rfl, h⟩ := h; exact ⟨A, c, rfl, fun e => h (upd_false e)⟩
  · have e : ∀ dn, putR B l vals dn j u w = (u = vals.getD j undef) := fun dn => by
      unfold putR
      split <;> first | rfl | contradiction
    rw [e] at h ⊢
    exact h
theorem putR_other {B : Nat} {l : List UInt8} {vals : List Value} {dn dn' : Nat → Bool} {j : Nat} {u : Value} {w w' : World} (hj : j ≠ 6) (h : putR B l vals dn j u w) : putR B l vals dn' j u w' := by
  have e : ∀ dn w, putR B l vals dn j u w = (u = vals.getD j undef) := fun dn w => by
    unfold putR
    split <;> first | rfl | contradiction
  rw [e] at h ⊢
  exact h
theorem putR_store {B : Nat} {l : List UInt8} {vals : List Value} {dn : Nat → Bool} {j : Nat} {u : Value} {w w' : World} (h : putR B l vals dn j u w) : putR B l vals (upd dn 8) j u w' := by
  by_cases hj : j = 6
  · subst hj; obtain ⟨A, c, rfl, h⟩ := h; exact ⟨A, c, rfl, fun e => absurd e (by rw [upd_self]; decide)⟩
  · exact putR_other hj h

def spoilErr3 (s : RSt) (a : Int) (l : List UInt8) : Int := if has3 s a && l.length == 128 then 0 else 30
def spoilSt3 (s : RSt) (a : Int) (l : List UInt8) : RSt := if spoilErr3 s a l = 0 then { s with stays := s.stays.set a.toNat l } else s

set_option maxRecDepth 100000 in
set_option maxHeartbeats 2000000 in
theorem rspoil_any [Aside] (a : Int) (h1 : -9223372036854775808 ≤ a) (h2 : a ≤ 9223372036854775807) (h : RD w b gS gC cS cC kv vs ws s) (A : Option Addr) (c : Nat) (l : List UInt8) (hr : Reads w w.heap.size 1 A l.length (l.map bv)) (hl : l.length ≤ 140737488355000) :
    Calls Tryz.prog 79 #[.pointer (some ⟨b, 0, none⟩), .int .i64 a, .slice A l.length c] w fun e w' => e = .returned (.int .i64 (spoilErr3 s a l)) ∧ (∃ vs', RD w' b gS gC cS cC kv vs' ws (spoilSt3 s a l)) ∧ Keep (rfoot b gS gC) w w' := by
  have HH := Lib.hid (rhas_any b gS gC cS cC kv vs ws s a w h)
  by_cases hok : (has3 s a && l.length == 128) = true
  · have he : spoilErr3 s a l = 0 := by unfold spoilErr3; rw [hok]; rfl
    have hst : spoilSt3 s a l = { s with stays := s.stays.set a.toNat l } := by unfold spoilSt3; rw [he]; rfl
    rw [Bool.and_eq_true, beq_iff_eq] at hok
    obtain ⟨hh, hl128⟩ := hok
    have hin : 0 ≤ a ∧ a < (s.stays.length : Int) := of_decide_eq_true hh
    obtain ⟨k, rfl⟩ := Int.eq_ofNat_of_zero_le hin.1
    have hk : k < s.stays.length := by omega
    rw [hh] at HH
    rw [he, hst, Int.toNat_natCast]
    have HT := Lib.hid (fun w' (hb : Below w.heap.size w w') => twin_any A c l.length l w' ((hr.below hb).more hb.size) hl)
    obtain ⟨⟨v, sv, sf, _⟩, _⟩ := h.sector hk
    have hlt := (h.foot gS (.inr (.inl rfl))).2.2
    have hbl := (h.foot b (.inl rfl)).2.2
    have CK := Lib.hid (fun w' (hb : Below w.heap.size w w') => (show w'.cell? ⟨gS, k, none⟩ = some v ∧ w'.frozen? ⟨gS, k, none⟩ = false from by
      have hbk := hb.block gS hlt
      refine ⟨(World.cell?_of_block (a := ⟨gS, k, none⟩) hbk).trans sv, ?_⟩
      unfold World.frozen? at sf ⊢
      rw [show w'.heap[(⟨gS, k, none⟩ : Addr).block]? = w.heap[(⟨gS, k, none⟩ : Addr).block]? from hbk]
      exact sf))
    have CX := Lib.hid (show ∀ w', Below w.heap.size w w' → w'.cell? ⟨b, 0, none⟩ = some (.slice (some ⟨gS, 0, none⟩) s.stays.length cS) from fun w' hb => (hb.cell (p := ⟨b, 0, none⟩) hbl).trans (h.blk.cell 0))
    have FIN := Lib.hid (fun w' A' c' (hb : Below w.heap.size w w') (ho : w'.ownsRow w.heap.size 5 1 (.slice A' 128 c') 128 (l.map bv)) =>
      (show (∃ vs', RD (w'.setCell ⟨gS, k, none⟩ (.slice A' 128 c')) b gS gC cS cC kv vs' ws { s with stays := s.stays.set k l }) ∧ Keep (rfoot b gS gC) w (w'.setCell ⟨gS, k, none⟩ (.slice A' 128 c')) from
        ⟨⟨_, (h.below hb).putS hl128 (Head.own ho) (Far.own h.lim ho)⟩, (Keep.of_below hb).setCell _ _ (fun _ => .inr (.inl rfl))⟩))
    have HKN := Lib.hid hk
    rw [hl128] at HT
    generalize hn : s.stays.length = n at *
    clear hh hin he hst hr sv sf
    rw [hl128]
    go_enter Tryz.func79, Tryz.ntmps79
    go_wp2_with (go_at_call 134; refine HH.out.mono ?_; rintro e _ ⟨rfl, rfl⟩)
    refine wp_region_done_on (fun dn w' => (dn 8 = false → Below w.heap.size w w') ∧ (dn 8 = true → (∃ vs', RD w' b gS gC cS cC kv vs' ws { s with stays := s.stays.set k l }) ∧ Keep (rfoot b gS gC) w w')) (putR w.heap.size l ([.pointer (some ⟨b, 0, none⟩), .pointer (some ⟨b, 0, none⟩), .pointer (some ⟨b, 0, none⟩), .slice (some ⟨gS, 0, none⟩) n cS, .int .i64 k, .slice A 128 c, undef, .pointer (some ⟨gS, k, none⟩), undef])) (by kernel_rfl) 26 rfl (by kernel_rfl) ⟨fun _ => (Below.refl _ _).drew, fun e => by cases e⟩ ?_ ?_
    · intro i hi
      have hi2 : i < 9 := hi
      clear hi
      rcases i with _ | i
      · refine done_value (fun dn w' h => ⟨fun e => h.1 (upd_false e), fun e => h.2 (upd_ne e (by decide))⟩) (fun _ => putR_mono) (.pointer (some ⟨b, 0, none⟩)) rfl ?_
        intro dn a8 w8 hS ho hn
        have o0 : a8.tmps[0]? = some _ := (ho 0 (by kernel_rfl)).trans rfl
        clear ho hn
        refine ⟨wanted_free rfl, ?_, rfl⟩
        go_simp
      rcases i with _ | i
      · refine done_value (fun dn w' h => ⟨fun e => h.1 (upd_false e), fun e => h.2 (upd_ne e (by decide))⟩) (fun _ => putR_mono) (.pointer (some ⟨b, 0, none⟩)) rfl ?_
        intro dn a8 w8 hS ho hn
        obtain ⟨_, n18, rfl⟩ := hn 0 18 (by kernel_rfl) rfl
        clear ho hn
        refine ⟨wanted_free rfl, ?_, rfl⟩
        go_simp
      rcases i with _ | i
      · refine done_value (fun dn w' h => ⟨fun e => h.1 (upd_false e), fun e => h.2 (upd_ne e (by decide))⟩) (fun _ => putR_mono) (.pointer (some ⟨b, 0, none⟩)) rfl ?_
        intro dn a8 w8 hS ho hn
        obtain ⟨_, n19, rfl⟩ := hn 1 19 (by kernel_rfl) rfl
        clear ho hn
        refine ⟨wanted_free rfl, ?_, rfl⟩
        go_simp
      rcases i with _ | i
      · refine done_read (fun dn w' h => ⟨fun e => h.1 (upd_false e), fun e => h.2 (upd_ne e (by decide))⟩) (fun _ => putR_mono) (.slice (some ⟨gS, 0, none⟩) n cS) rfl ?_
        intro dn a8 w8 hS hx ho hn
        obtain ⟨_, n20, rfl⟩ := hn 2 20 (by kernel_rfl) rfl
        clear ho hn
        refine ⟨wanted_free rfl, ?_, rfl⟩
        have hc := CX.out w8 (hS.1 (hx 8 (by kernel_rfl)))
        go_simp
      rcases i with _ | i
      · refine done_value (fun dn w' h => ⟨fun e => h.1 (upd_false e), fun e => h.2 (upd_ne e (by decide))⟩) (fun _ => putR_mono) (.int .i64 k) rfl ?_
        intro dn a8 w8 hS ho hn
        have o1 : a8.tmps[1]? = some _ := (ho 1 (by kernel_rfl)).trans rfl
        clear ho hn
        refine ⟨wanted_free rfl, ?_, rfl⟩
        go_simp
      rcases i with _ | i
      · refine done_value (fun dn w' h => ⟨fun e => h.1 (upd_false e), fun e => h.2 (upd_ne e (by decide))⟩) (fun _ => putR_mono) (.slice A 128 c) rfl ?_
        intro dn a8 w8 hS ho hn
        have o2 : a8.tmps[2]? = some _ := (ho 2 (by kernel_rfl)).trans rfl
        clear ho hn
        refine ⟨wanted_free rfl, ?_, rfl⟩
        go_simp
      rcases i with _ | i
      · refine done_call 18 #[.slice A 128 c] rfl ?_
        intro dn a8 w8 hS hd hx ho hn
        obtain ⟨_, n23, rfl⟩ := hn 5 23 (by kernel_rfl) rfl
        clear ho hn
        refine ⟨wanted_free rfl, by go_simp, ?_⟩
        have hb := hS.1 (hx 8 (by kernel_rfl))
        refine (HT.out w8 hb).mono ?_
        rintro e w9 ⟨A', c', rfl, ho, hb9⟩
        exact ⟨_, rfl, ⟨fun _ => hb.trans (hb9.mono hb.size), fun e => absurd (hx 8 (by kernel_rfl)) (by rw [upd_ne e (by decide)]; decide)⟩, ⟨A', c', rfl, fun _ => own_mono3 ho hb.size⟩, fun j u hj hdj hR => putR_other hj hR⟩
      rcases i with _ | i
      · refine done_value (fun dn w' h => ⟨fun e => h.1 (upd_false e), fun e => h.2 (upd_ne e (by decide))⟩) (fun _ => putR_mono) (.pointer (some ⟨gS, k, none⟩)) rfl ?_
        intro dn a8 w8 hS ho hn
        obtain ⟨_, n21, rfl⟩ := hn 3 21 (by kernel_rfl) rfl
        obtain ⟨_, n22, rfl⟩ := hn 4 22 (by kernel_rfl) rfl
        clear ho hn
        refine ⟨wanted_free rfl, ?_, rfl⟩
        have hl := HKN.out
        go_simp
      rcases i with _ | i
      · refine done_store rfl rfl ?_
        intro dn a8 w8 hS hd hx ho hn
        obtain ⟨_, n25, rfl⟩ := hn 7 25 (by kernel_rfl) rfl
        obtain ⟨_, n24, hR24⟩ := hn 6 24 (by kernel_rfl) rfl
        clear ho hn
        refine ⟨wanted_free rfl, ?_⟩
        obtain ⟨A', c', rfl, ho⟩ := hR24
        obtain ⟨hcell, hfz⟩ := CK.out w8 (hS.1 hd)
        refine ⟨w8.setCell ⟨gS, k, none⟩ (.slice A' 128 c'), by go_simp, ⟨fun e => absurd e (by rw [upd_self]; decide), fun _ => FIN.out w8 A' c' (hS.1 hd) (ho hd)⟩, rfl, fun j u hj hdj hR => putR_store hR⟩
      omega
    · intro done f w8 hS hR hD
      have hfin := hS.2 (hD 8 (by decide))
      have HF := Lib.hid hfin
      clear hR hD hS hfin
      simp only [putAll, List.foldl_cons, List.foldl_nil, Act.put, List.setIfInBounds_toArray, List.set_cons_succ, List.set_cons_zero]
      go_wp2
      go_ret
      exact ⟨rfl, HF.out.1, HF.out.2⟩
  · have he : spoilErr3 s a l = 30 := by unfold spoilErr3; rw [if_neg hok]
    have hst : spoilSt3 s a l = s := by unfold spoilSt3; rw [he]; rfl
    rw [he, hst]
    have HRD := Lib.hid h
    clear he hst hr h
    cases hh : has3 s a
    · rw [hh] at HH
      clear hok hh
      go_enter Tryz.func79, Tryz.ntmps79
      go_wp2_with (go_at_call 134; refine HH.out.mono ?_; rintro e _ ⟨rfl, rfl⟩)
      go_ret
      exact ⟨rfl, ⟨_, HRD.out⟩, Keep.refl _ _⟩
    · rw [hh] at HH
      have hne : ((l.length : Int) != 128) = true := by
        rw [bne_iff_ne]
        intro e
        apply hok
        rw [hh]
        simp
        omega
      generalize l.length = m at *
      clear hok hh
      go_enter Tryz.func79, Tryz.ntmps79
      go_wp2_with (go_at_call 134; refine HH.out.mono ?_; rintro e _ ⟨rfl, rfl⟩)
      go_ret
      exact ⟨rfl, ⟨_, HRD.out⟩, Keep.refl _ _⟩
end

end Go.Proofs.YtkebbjodkhjbmaaGreat

namespace Go.Proofs.YtkebbjodkhjbmaaGreat
open Go.RowKit

/-- The sectors ahead of k flushed. -/
def flushTo (s : RSt) : Nat → RSt
  | 0 => s
  | k + 1 => if 0 < ((flushTo s k).cache.getD k []).length then { flushTo s k with stays := (flushTo s k).stays.set k ((flushTo s k).cache.getD k []), cache := (flushTo s k).cache.set k [] } else flushTo s k
theorem flushTo_length (s : RSt) : ∀ k, (flushTo s k).stays.length = s.stays.length
  | 0 => rfl
  | k + 1 => by
    unfold flushTo
    split
    · show (List.set _ _ _).length = _
      rw [List.length_set]
      exact flushTo_length s k
    · exact flushTo_length s k
theorem flushTo_down (s : RSt) : ∀ k, (flushTo s k).down = s.down
  | 0 => rfl
  | k + 1 => by
    unfold flushTo
    split
    · exact flushTo_down s k
    · exact flushTo_down s k

def flushErr3 (s : RSt) : Int := if s.down then 31 else 0
def flushSt3 (s : RSt) : RSt := if s.down then s else flushTo s s.stays.length

/-- The slice v reads as the numbers xs, and lies in none of the disk's own blocks. -/
def HeadF (b gS gC : Nat) (w : World) (xs : List Value) (v : Value) : Prop :=
  ∃ A c, v = .slice A xs.length c ∧ xs.length ≤ c ∧ c ≤ 9223372036854775807 ∧ Reads w w.heap.size 1 A xs.length xs ∧ (0 < xs.length → ∀ ad, A = some ad → ¬ rfoot b gS gC ad.block)
theorem HeadF.keep {b gS gC : Nat} {w w' : World} {S : Nat → Prop} {xs : List Value} {v : Value} (h : HeadF b gS gC w xs v) (hk : Keep S w w') (hS : ∀ k, S k → rfoot b gS gC k) : HeadF b gS gC w' xs v := by
  obtain ⟨A, c, rfl, h1, h2, h3, h4⟩ := h
  refine ⟨A, c, rfl, h1, h2, ?_, h4⟩
  by_cases h0 : 0 < xs.length
  · exact (h3.keepS hk (Nat.le_refl _) (fun ad e hs => h4 h0 ad e (hS _ hs))).more hk.size
  · exact ⟨by omega, fun h => absurd h h0⟩
theorem Head.f [Aside] {w : World} {b gS gC cS cC : Nat} {kv : Value} {vs ws : List Value} {s : RSt} {xs : List Value} {v : Value} (h : Head w 3 xs v) (hr : RD w b gS gC cS cC kv vs ws s) : HeadF b gS gC w xs v := by
  obtain ⟨A, c, rfl, h1, h2, h3, h4⟩ := h
  exact ⟨A, c, rfl, h1, h2, h3, fun _ ad e hf => (hr.foot _ hf).2.1 (h4 ad e)⟩

theorem RD.drew [Aside] {w : World} {b gS gC cS cC : Nat} {kv : Value} {vs ws : List Value} {s : RSt} (h : RD w b gS gC cS cC kv vs ws s) : RD w.drew b gS gC cS cC kv vs ws s :=
  h.below (Below.refl _ _).drew

section
variable {b gS gC cS cC : Nat} {kv : Value} {vs ws : List Value} {s : RSt} {w : World}

set_option maxRecDepth 100000 in
set_option maxHeartbeats 2000000 in
theorem rflush_any [Aside] (h : RD w b gS gC cS cC kv vs ws s) :
    Calls Tryz.prog 83 #[.pointer (some ⟨b, 0, none⟩)] w fun e w' => e = .returned (.int .i64 (flushErr3 s)) ∧ (∃ vs' ws', RD w' b gS gC cS cC kv vs' ws' (flushSt3 s)) ∧ Keep (rfoot b gS gC) w w' := by
  have c7 : w.cell? ⟨b, 7, none⟩ = some (.bool s.down) := h.blk.cell 7
  unfold flushErr3 flushSt3
  cases hd : s.down
  · rw [hd] at c7
    have H := Lib.hid h
    have hfew := h.ok.few
    clear h
    go_enter Tryz.func83, Tryz.ntmps83
    go_wp2
    clear c7
    go_loopw [3] (fun i wr => ∃ k vs' ws', k ≤ s.stays.length ∧ i = .int .i64 ((k : Nat) : Int) ∧ RD wr b gS gC cS cC kv vs' ws' (flushTo s k) ∧ Keep (rfoot b gS gC) w wr) (fun i _ => s.stays.length - (intOf i).toNat)
    case atStart => exact ⟨0, vs, ws, Nat.zero_le _, rfl, H.out, Keep.refl _ _⟩
    case round =>
      obtain ⟨k, vs', ws', hk, rfl, hrd, hkp⟩ := hrel
      have hlen := flushTo_length s k
      have c0 : wr.cell? ⟨b, 0, none⟩ = some (.slice (some ⟨gS, 0, none⟩) (flushTo s k).stays.length cS) := hrd.blk.cell 0
      have c1 : wr.cell? ⟨b, 1, none⟩ = some (.slice (some ⟨gC, 0, none⟩) (flushTo s k).stays.length cC) := hrd.blk.cell 1
      rw [hlen] at c0 c1
      have HRD := Lib.hid hrd
      have HKP := Lib.hid hkp
      have HLEN := Lib.hid hlen
      have hnx : flushTo s (k + 1) = if 0 < ((flushTo s k).cache.getD k []).length then { flushTo s k with stays := (flushTo s k).stays.set k ((flushTo s k).cache.getD k []), cache := (flushTo s k).cache.set k [] } else flushTo s k := rfl
      have HNX := Lib.hid hnx
      clear hkp hlen hnx
      by_cases hlt : k < s.stays.length
      · obtain ⟨⟨v, sv, sf, _⟩, ⟨u, cu, cf, hu⟩⟩ := hrd.sector (k := k) (by rw [HLEN.out]; exact hlt)
        have HU := Lib.hid hu
        obtain ⟨AC, cc, rfl, _, hcb, _, _⟩ := hu
        rw [List.length_map] at cu
        have hw8 := hrd.ok.wait _ (get_mem (k := k) (by rw [hrd.ok.same, HLEN.out]; exact hlt))
        have HW8 := Lib.hid hw8
        generalize hx : (flushTo s k).cache.getD k [] = x at *
        clear hrd hw8
        have HFR := Lib.hid (HRD.out.farC (k := k) (by rw [HLEN.out]; exact hlt) cu)
        by_cases hc : 0 < x.length
        · have hx8 : x.length = 128 := by have := HW8.out; omega
          rw [hx8] at HFR
          have hbS : b ≠ gS := fun e => absurd (HRD.out.blk.typ.ne (e ▸ own_typ HRD.out.sOwn)) (by decide)
          have hbC : b ≠ gC := fun e => absurd (HRD.out.blk.typ.ne (e ▸ own_typ HRD.out.cOwn)) (by decide)
          have hSC := HRD.out.ne
          rw [hx8] at cu
          rw [if_pos hc] at HNX
          have HX8 := Lib.hid hx8
          generalize s.stays.length = n at *
          clear hc hx8
          go_wp2
          go_region
          go_wp2
          have hp1 := (HRD.out.putS (k := k) (l := x) (v := .slice AC 128 cc) HX8.out (by have h := HU.out; rw [List.length_map, HX8.out] at h; exact h) HFR.out)
          have hp2 := hp1.putC (k := k) (l := []) (v := .slice none 0 0) (.inl rfl) (Head.nil _ _) Far.nil
          have hp3 : RD ((wr.setCell ⟨gS, k, none⟩ (.slice AC 128 cc)).setCell ⟨gC, k, none⟩ (.slice none 0 0)).drew b gS gC cS cC kv _ _ _ := hp2.drew
          refine ⟨⟨k + 1, _, _, by omega, by go_num, by rw [HNX.out]; exact hp3, ?_⟩, by simp [intOf]; omega⟩
          exact ((HKP.out.setCell _ _ (fun _ => .inr (.inl rfl))).setCell _ _ (fun _ => .inr (.inr rfl))).drew
        · have h0 : x.length = 0 := by omega
          rw [h0] at cu
          rw [if_neg hc] at HNX
          generalize hn : s.stays.length = n at *
          clear hc h0 hn
          go_wp2
          exact ⟨⟨k + 1, vs', ws', by omega, by go_num, by rw [HNX.out]; exact HRD.out, HKP.out⟩, by simp [intOf]; omega⟩
      · obtain ⟨n, hn⟩ : ∃ n, s.stays.length = n := ⟨_, rfl⟩
        have HNN := Lib.hid hn
        rw [hn] at hk hlt c0 c1 hfew
        obtain rfl : k = n := by omega
        clear hrd hn HLEN HNX
        go_wp2
        go_ret
        exact ⟨rfl, ⟨vs', ws', by rw [HNN.out]; exact HRD.out⟩, HKP.out⟩
  · rw [hd] at c7
    have H := Lib.hid h
    clear h
    go_enter Tryz.func83, Tryz.ntmps83
    go_wp2
    go_ret
    exact ⟨rfl, ⟨vs, ws, H.out⟩, Keep.refl _ _⟩
theorem reads_blk3 {w : World} {g : Nat} {t : TypeId} {x : Value} (h : Blk w g t #[x]) : Reads w w.heap.size 1 (some ⟨g, 0, none⟩) 1 [x] := by
  refine ⟨rfl, fun _ => ⟨_, rfl, h.lt, fun j u hu => ?_⟩⟩
  rcases j with _ | j
  · simp at hu
    subst hu
    exact h.cell 0
  · simp at hu

theorem infoInt : (Tryz.prog.info? 3).map (fun i => (i.zero, i.size, i.bytes)) = some (some (.int .i64 0), 1, 8) := by kernel_rfl

/-- Which of the sectors ahead of k wait. -/
def waitsTo (s : RSt) : Nat → List Int
  | 0 => []
  | k + 1 => if 0 < (s.cache.getD k []).length then waitsTo s k ++ [(k : Int)] else waitsTo s k
theorem waitsTo_length (s : RSt) : ∀ k, (waitsTo s k).length ≤ k
  | 0 => Nat.le_refl _
  | k + 1 => by
    unfold waitsTo
    have := waitsTo_length s k
    split
    · rw [List.length_append]
      simp only [List.length_cons, List.length_nil]
      omega
    · omega
def waits3 (s : RSt) : List Int := waitsTo s s.stays.length

end

end Go.Proofs.YtkebbjodkhjbmaaGreat

namespace Go.Proofs.YtkebbjodkhjbmaaGreat
open Go.RowKit

/-- How many bytes of sector k's last write stay. -/
def stayN (c : DCrash) (k : Nat) : Int := if (k : Int) ∈ c.keep then 128 else if c.torn = (k : Int) then c.at_ else 0
/-- The first bytes of one, the others of another. -/
def cutAt (n : Int) (x y : List UInt8) : List UInt8 := x.take n.toNat ++ y.drop n.toNat
theorem cutAt_length {n : Int} {x y : List UInt8} (hx : x.length = 128) (hy : y.length = 128) : (cutAt n x y).length = 128 := by
  unfold cutAt
  rw [List.length_append, List.length_take, List.length_drop]
  omega

theorem cutAt_at {n : Int} {x y : List UInt8} {j : Nat} (hx : x.length = 128) (hj : j < 128) : (cutAt n x y)[j]? = if (j : Int) < n then x[j]? else y[j]? := by
  unfold cutAt
  by_cases h : (j : Int) < n
  · rw [if_pos h, List.getElem?_append_left (by rw [List.length_take]; omega), List.getElem?_take_of_lt (by omega)]
  · rw [if_neg h, List.getElem?_append_right (by rw [List.length_take]; omega), List.length_take, List.getElem?_drop]
    congr 1
    omega

/-- The sectors ahead of k behind the crash. -/
def fallTo (s : RSt) (c : DCrash) : Nat → RSt
  | 0 => s
  | k + 1 => if 0 < ((fallTo s c k).cache.getD k []).length then { fallTo s c k with stays := (fallTo s c k).stays.set k (cutAt (stayN c k) ((fallTo s c k).cache.getD k []) ((fallTo s c k).stays.getD k [])), cache := (fallTo s c k).cache.set k [] } else fallTo s c k
theorem fallTo_length (s : RSt) (c : DCrash) : ∀ k, (fallTo s c k).stays.length = s.stays.length
  | 0 => rfl
  | k + 1 => by
    unfold fallTo
    split
    · show (List.set _ _ _).length = _
      rw [List.length_set]
      exact fallTo_length s c k
    · exact fallTo_length s c k

def fallSt (s : RSt) (c : DCrash) : RSt := { fallTo s c s.stays.length with write := 0, keep := [], torn := 0, at_ := 0, down := true }

/-- What lies in the disk's own block is laid anew. -/
theorem RD.self [Aside] {w w' : World} {b gS gC cS cC : Nat} {kv kv' : Value} {vs ws : List Value} {s s' : RSt} (h : RD w b gS gC cS cC kv vs ws s) (hk : Keep (fun k => k = b) w w') (hs : s'.stays = s.stays) (hc : s'.cache = s.cache)
    (hb : Blk w' b 45 #[.slice (some ⟨gS, 0, none⟩) s.stays.length cS, .slice (some ⟨gC, 0, none⟩) s.stays.length cC, .int .i64 s'.write, kv', .int .i64 s'.torn, .int .i64 s'.at_, .int .i64 s'.many, .bool s'.down])
    (hkv : Head w' 3 (s'.keep.map iv) kv') (hF : Far kv') : RD w' b gS gC cS cC kv' vs ws s' := by
  have hf := h.foot b (.inl rfl)
  have h8 : ∀ i, i = b → ¬ Typ w i 5 := fun i e => by subst e; exact hf.1
  have hbs : b ≠ gS := fun e => absurd (h.blk.typ.ne (e ▸ own_typ h.sOwn)) (by decide)
  have hbc : b ≠ gC := fun e => absurd (h.blk.typ.ne (e ▸ own_typ h.cOwn)) (by decide)
  refine ⟨⟨by rw [hs, hc]; exact h.ok.same, by rw [hs]; exact h.ok.few, by rw [hs]; exact h.ok.stay, by rw [hc]; exact h.ok.wait⟩, by rw [hs]; exact hb, ?_, ?_, h.ne, by rw [hs]; exact h.sHead.keep hk h8, by rw [hc]; exact h.cHead.keep hk h8, hkv, fun k ho => Nat.lt_of_lt_of_le (h.lim k ho) hk.size, h.far.1, h.far.2.1, hF⟩
  · rw [hs]
    exact hk.own h.sOwn (fun i e => by injection e with e; subst e; exact fun e => hbs e.symm)
  · rw [hs]
    exact hk.own h.cOwn (fun i e => by injection e with e; subst e; exact fun e => hbc e.symm)

def armErr3 (c : DCrash) : Int := if c.write < 1 then 2 else 0
def armSt3 (s : RSt) (c : DCrash) : RSt := if c.write < 1 then s else { s with write := c.write, keep := c.keep, torn := c.torn, at_ := c.at_ }

end Go.Proofs.YtkebbjodkhjbmaaGreat

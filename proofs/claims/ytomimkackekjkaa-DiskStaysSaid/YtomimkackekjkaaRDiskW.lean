/-
  The given disk of layer 3: one sector's bytes laid anew, where they stay, or where they wait.
-/
import Derived.Test.YtomimkackekjkaaRDiskR
import Derived.Test.YtomimkackekjkaaDone
namespace Go.Proofs.Ytomimkackekjkaa
open Go.RowKit

theorem own_mono3 {w : World} {base base' : Nat} {e : TypeId} {size : Nat} {v : Value} {n : Nat} {xs : List Value} (h : w.ownsRow base e size v n xs) (hb : base' ≤ base) : w.ownsRow base' e size v n xs :=
  ⟨h.1, h.2.imp id fun ⟨g, cap, cur, h1, h2, h3⟩ => ⟨g, cap, cur, h1, Nat.le_trans hb h2, h3⟩⟩

section
variable {b gS gC cS cC : Nat} {kv : Value} {vs ws : List Value} {s : RSt} {w : World}

theorem RD.putS (h : RD w b gS gC cS cC kv vs ws s) {k : Nat} {l : List UInt8} {v : Value} (hl : l.length = 128) (hv : Head w 5 (l.map bv) v) :
    RD (w.setCell ⟨gS, k, none⟩ v) b gS gC cS cC kv (vs.set k v) ws { s with stays := s.stays.set k l } := by
  have hlen : (s.stays.set k l).length = s.stays.length := List.length_set
  have hk : Keep (fun i => i = gS) w (w.setCell ⟨gS, k, none⟩ v) := (Keep.refl _ _).setCell _ _ (fun _ => rfl)
  have hf := h.foot gS (.inr (.inl rfl))
  have h8 : ∀ i, i = gS → ¬ Typ w i 5 := fun i e => by subst e; exact hf.1
  have hi : ∀ i, i = gS → ¬ Typ w i 3 := fun i e => by subst e; exact hf.2.1
  have hbs : b ≠ gS := fun e => absurd (h.blk.typ.ne (e ▸ own_typ h.sOwn)) (by decide)
  refine ⟨⟨by rw [hlen]; exact h.ok.same, by rw [hlen]; exact h.ok.few, fun m hm => ?_, h.ok.wait⟩, ?_, ?_, ?_, h.ne, ?_, h.cHead.keep hk h8, h.kHead.keep hk hi⟩
  · rcases List.mem_or_eq_of_mem_set hm with hm | rfl
    · exact h.ok.stay _ hm
    · exact hl
  · have := h.blk.far (p := ⟨gS, k, none⟩) hbs v
    rw [hlen]
    exact this
  · rw [hlen]
    exact own_put h.sOwn v
  · rw [hlen]
    exact hk.own h.cOwn (fun i e => by injection e with e; subst e; exact fun e => h.ne e.symm)
  · exact (h.sHead.keep hk h8).set_ k (hv.keep hk h8)

theorem RD.putC (h : RD w b gS gC cS cC kv vs ws s) {k : Nat} {l : List UInt8} {v : Value} (hl : l.length = 0 ∨ l.length = 128) (hv : Head w 5 (l.map bv) v) :
    RD (w.setCell ⟨gC, k, none⟩ v) b gS gC cS cC kv vs (ws.set k v) { s with cache := s.cache.set k l } := by
  have hlen : (s.cache.set k l).length = s.cache.length := List.length_set
  have hk : Keep (fun i => i = gC) w (w.setCell ⟨gC, k, none⟩ v) := (Keep.refl _ _).setCell _ _ (fun _ => rfl)
  have hf := h.foot gC (.inr (.inr rfl))
  have h8 : ∀ i, i = gC → ¬ Typ w i 5 := fun i e => by subst e; exact hf.1
  have hi : ∀ i, i = gC → ¬ Typ w i 3 := fun i e => by subst e; exact hf.2.1
  have hbs : b ≠ gC := fun e => absurd (h.blk.typ.ne (e ▸ own_typ h.cOwn)) (by decide)
  refine ⟨⟨by rw [hlen]; exact h.ok.same, h.ok.few, h.ok.stay, fun m hm => ?_⟩, h.blk.far (p := ⟨gC, k, none⟩) hbs v, ?_, own_put h.cOwn v, h.ne, h.sHead.keep hk h8, ?_, h.kHead.keep hk hi⟩
  · rcases List.mem_or_eq_of_mem_set hm with hm | rfl
    · exact h.ok.wait _ hm
    · exact hl
  · exact hk.own h.sOwn (fun i e => by injection e with e; subst e; exact fun e => h.ne e)
  · exact (h.cHead.keep hk h8).set_ k (hv.keep hk h8)
/-- Operation 6's value: bytes in memory of their own, until operation 8 has laid them. -/
def putR (B : Nat) (l : List UInt8) (vals : List Value) (dn : Nat → Bool) (i : Nat) (v : Value) (w' : World) : Prop :=
  match i with
  | 6 => ∃ A c, v = .slice A 128 c ∧ (dn 8 = false → w'.ownsRow B 5 1 (.slice A 128 c) 128 (l.map bv))
  | i => v = vals.getD i undef
theorem putR_mono {B : Nat} {l : List UInt8} {vals : List Value} {dn : Nat → Bool} {i : Nat} (j : Nat) (u : Value) (w : World) (h : putR B l vals dn j u w) : putR B l vals (upd dn i) j u w := by
  by_cases hj : j = 6
  · subst hj; obtain ⟨A, c, rfl, h⟩ := h; exact ⟨A, c, rfl, fun e => h (upd_false e)⟩
  · have e : ∀ dn, putR B l vals dn j u w = (u = vals.getD j undef) := fun dn => by
      unfold putR
      split <;> first | rfl | contradiction
    rw [e] at h ⊢
    exact h
theorem putR_other {B : Nat} {l : List UInt8} {vals : List Value} {dn dn' : Nat → Bool} {j : Nat} {u : Value} {w w' : World} (hj : j ≠ 6) (h : putR B l vals dn j u w) : putR B l vals dn' j u w' := by
  have e : ∀ dn w, putR B l vals dn j u w = (u = vals.getD j undef) := fun dn w => by
    unfold putR
    split <;> first | rfl | contradiction
  rw [e] at h ⊢
  exact h
theorem putR_store {B : Nat} {l : List UInt8} {vals : List Value} {dn : Nat → Bool} {j : Nat} {u : Value} {w w' : World} (h : putR B l vals dn j u w) : putR B l vals (upd dn 8) j u w' := by
  by_cases hj : j = 6
  · subst hj; obtain ⟨A, c, rfl, h⟩ := h; exact ⟨A, c, rfl, fun e => absurd e (by rw [upd_self]; decide)⟩
  · exact putR_other hj h

def spoilErr3 (s : RSt) (a : Int) (l : List UInt8) : Int := if has3 s a && l.length == 128 then 0 else 30
def spoilSt3 (s : RSt) (a : Int) (l : List UInt8) : RSt := if spoilErr3 s a l = 0 then { s with stays := s.stays.set a.toNat l } else s

set_option maxRecDepth 100000 in
set_option maxHeartbeats 2000000 in
theorem rspoil_any (a : Int) (h1 : -9223372036854775808 ≤ a) (h2 : a ≤ 9223372036854775807) (h : RD w b gS gC cS cC kv vs ws s) (A : Option Addr) (c : Nat) (l : List UInt8) (hr : Reads w w.heap.size 1 A l.length (l.map bv)) (hl : l.length ≤ 140737488355000) :
    Calls Try.prog 28 #[.pointer (some ⟨b, 0, none⟩), .int .i64 a, .slice A l.length c] w fun e w' => e = .returned (.int .i64 (spoilErr3 s a l)) ∧ (∃ vs', RD w' b gS gC cS cC kv vs' ws (spoilSt3 s a l)) ∧ Keep (rfoot b gS gC) w w' := by
  have HH := Lib.hid (rhas_any b gS gC cS cC kv vs ws s a w h)
  by_cases hok : (has3 s a && l.length == 128) = true
  · have he : spoilErr3 s a l = 0 := by unfold spoilErr3; rw [hok]; rfl
    have hst : spoilSt3 s a l = { s with stays := s.stays.set a.toNat l } := by unfold spoilSt3; rw [he]; rfl
    rw [Bool.and_eq_true, beq_iff_eq] at hok
    obtain ⟨hh, hl128⟩ := hok
    have hin : 0 ≤ a ∧ a < (s.stays.length : Int) := of_decide_eq_true hh
    obtain ⟨k, rfl⟩ := Int.eq_ofNat_of_zero_le hin.1
    have hk : k < s.stays.length := by omega
    rw [hh] at HH
    rw [he, hst, Int.toNat_natCast]
    have HT := Lib.hid (fun w' (hb : Below w.heap.size w w') => twin_any A c l.length l w' ((hr.below hb).more hb.size) hl)
    obtain ⟨⟨v, sv, sf, _⟩, _⟩ := h.sector hk
    have hlt := (h.foot gS (.inr (.inl rfl))).2.2
    have hbl := (h.foot b (.inl rfl)).2.2
    have CK := Lib.hid (fun w' (hb : Below w.heap.size w w') => (show w'.cell? ⟨gS, k, none⟩ = some v ∧ w'.frozen? ⟨gS, k, none⟩ = false from by
      have hbk := hb.block gS hlt
      refine ⟨(World.cell?_of_block (a := ⟨gS, k, none⟩) hbk).trans sv, ?_⟩
      unfold World.frozen? at sf ⊢
      rw [show w'.heap[(⟨gS, k, none⟩ : Addr).block]? = w.heap[(⟨gS, k, none⟩ : Addr).block]? from hbk]
      exact sf))
    have CX := Lib.hid (show ∀ w', Below w.heap.size w w' → w'.cell? ⟨b, 0, none⟩ = some (.slice (some ⟨gS, 0, none⟩) s.stays.length cS) from fun w' hb => (hb.cell (p := ⟨b, 0, none⟩) hbl).trans (h.blk.cell 0))
    have FIN := Lib.hid (fun w' A' c' (hb : Below w.heap.size w w') (ho : w'.ownsRow w.heap.size 5 1 (.slice A' 128 c') 128 (l.map bv)) =>
      (show (∃ vs', RD (w'.setCell ⟨gS, k, none⟩ (.slice A' 128 c')) b gS gC cS cC kv vs' ws { s with stays := s.stays.set k l }) ∧ Keep (rfoot b gS gC) w (w'.setCell ⟨gS, k, none⟩ (.slice A' 128 c')) from
        ⟨⟨_, (h.below hb).putS hl128 (Head.own ho)⟩, (Keep.of_below hb).setCell _ _ (fun _ => .inr (.inl rfl))⟩))
    have HKN := Lib.hid hk
    rw [hl128] at HT
    generalize hn : s.stays.length = n at *
    clear hh hin he hst hr sv sf
    rw [hl128]
    go_enter Try.func28, Try.ntmps28
    go_wp2_with (go_at_call 37; refine HH.out.mono ?_; rintro e _ ⟨rfl, rfl⟩)
    refine wp_region_done_on (fun dn w' => (dn 8 = false → Below w.heap.size w w') ∧ (dn 8 = true → (∃ vs', RD w' b gS gC cS cC kv vs' ws { s with stays := s.stays.set k l }) ∧ Keep (rfoot b gS gC) w w')) (putR w.heap.size l ([.pointer (some ⟨b, 0, none⟩), .pointer (some ⟨b, 0, none⟩), .pointer (some ⟨b, 0, none⟩), .slice (some ⟨gS, 0, none⟩) n cS, .int .i64 k, .slice A 128 c, undef, .pointer (some ⟨gS, k, none⟩), undef])) (by kernel_rfl) 26 rfl (by kernel_rfl) ⟨fun _ => (Below.refl _ _).drew, fun e => by cases e⟩ ?_ ?_
    · intro i hi
      have hi2 : i < 9 := hi
      clear hi
      rcases i with _ | i
      · refine done_value (fun dn w' h => ⟨fun e => h.1 (upd_false e), fun e => h.2 (upd_ne e (by decide))⟩) (fun _ => putR_mono) (.pointer (some ⟨b, 0, none⟩)) rfl ?_
        intro dn a8 w8 hS ho hn
        have o0 : a8.tmps[0]? = some _ := (ho 0 (by kernel_rfl)).trans rfl
        clear ho hn
        refine ⟨wanted_free rfl, ?_, rfl⟩
        go_simp
      rcases i with _ | i
      · refine done_value (fun dn w' h => ⟨fun e => h.1 (upd_false e), fun e => h.2 (upd_ne e (by decide))⟩) (fun _ => putR_mono) (.pointer (some ⟨b, 0, none⟩)) rfl ?_
        intro dn a8 w8 hS ho hn
        obtain ⟨_, n18, rfl⟩ := hn 0 18 (by kernel_rfl) rfl
        clear ho hn
        refine ⟨wanted_free rfl, ?_, rfl⟩
        go_simp
      rcases i with _ | i
      · refine done_value (fun dn w' h => ⟨fun e => h.1 (upd_false e), fun e => h.2 (upd_ne e (by decide))⟩) (fun _ => putR_mono) (.pointer (some ⟨b, 0, none⟩)) rfl ?_
        intro dn a8 w8 hS ho hn
        obtain ⟨_, n19, rfl⟩ := hn 1 19 (by kernel_rfl) rfl
        clear ho hn
        refine ⟨wanted_free rfl, ?_, rfl⟩
        go_simp
      rcases i with _ | i
      · refine done_read (fun dn w' h => ⟨fun e => h.1 (upd_false e), fun e => h.2 (upd_ne e (by decide))⟩) (fun _ => putR_mono) (.slice (some ⟨gS, 0, none⟩) n cS) rfl ?_
        intro dn a8 w8 hS hx ho hn
        obtain ⟨_, n20, rfl⟩ := hn 2 20 (by kernel_rfl) rfl
        clear ho hn
        refine ⟨wanted_free rfl, ?_, rfl⟩
        have hc := CX.out w8 (hS.1 (hx 8 (by kernel_rfl)))
        go_simp
      rcases i with _ | i
      · refine done_value (fun dn w' h => ⟨fun e => h.1 (upd_false e), fun e => h.2 (upd_ne e (by decide))⟩) (fun _ => putR_mono) (.int .i64 k) rfl ?_
        intro dn a8 w8 hS ho hn
        have o1 : a8.tmps[1]? = some _ := (ho 1 (by kernel_rfl)).trans rfl
        clear ho hn
        refine ⟨wanted_free rfl, ?_, rfl⟩
        go_simp
      rcases i with _ | i
      · refine done_value (fun dn w' h => ⟨fun e => h.1 (upd_false e), fun e => h.2 (upd_ne e (by decide))⟩) (fun _ => putR_mono) (.slice A 128 c) rfl ?_
        intro dn a8 w8 hS ho hn
        have o2 : a8.tmps[2]? = some _ := (ho 2 (by kernel_rfl)).trans rfl
        clear ho hn
        refine ⟨wanted_free rfl, ?_, rfl⟩
        go_simp
      rcases i with _ | i
      · refine done_call 20 #[.slice A 128 c] rfl ?_
        intro dn a8 w8 hS hd hx ho hn
        obtain ⟨_, n23, rfl⟩ := hn 5 23 (by kernel_rfl) rfl
        clear ho hn
        refine ⟨wanted_free rfl, by go_simp, ?_⟩
        have hb := hS.1 (hx 8 (by kernel_rfl))
        refine (HT.out w8 hb).mono ?_
        rintro e w9 ⟨A', c', rfl, ho, hb9⟩
        exact ⟨_, rfl, ⟨fun _ => hb.trans (hb9.mono hb.size), fun e => absurd (hx 8 (by kernel_rfl)) (by rw [upd_ne e (by decide)]; decide)⟩, ⟨A', c', rfl, fun _ => own_mono3 ho hb.size⟩, fun j u hj hdj hR => putR_other hj hR⟩
      rcases i with _ | i
      · refine done_value (fun dn w' h => ⟨fun e => h.1 (upd_false e), fun e => h.2 (upd_ne e (by decide))⟩) (fun _ => putR_mono) (.pointer (some ⟨gS, k, none⟩)) rfl ?_
        intro dn a8 w8 hS ho hn
        obtain ⟨_, n21, rfl⟩ := hn 3 21 (by kernel_rfl) rfl
        obtain ⟨_, n22, rfl⟩ := hn 4 22 (by kernel_rfl) rfl
        clear ho hn
        refine ⟨wanted_free rfl, ?_, rfl⟩
        have hl := HKN.out
        go_simp
      rcases i with _ | i
      · refine done_store rfl rfl ?_
        intro dn a8 w8 hS hd hx ho hn
        obtain ⟨_, n25, rfl⟩ := hn 7 25 (by kernel_rfl) rfl
        obtain ⟨_, n24, hR24⟩ := hn 6 24 (by kernel_rfl) rfl
        clear ho hn
        refine ⟨wanted_free rfl, ?_⟩
        obtain ⟨A', c', rfl, ho⟩ := hR24
        obtain ⟨hcell, hfz⟩ := CK.out w8 (hS.1 hd)
        refine ⟨w8.setCell ⟨gS, k, none⟩ (.slice A' 128 c'), by go_simp, ⟨fun e => absurd e (by rw [upd_self]; decide), fun _ => FIN.out w8 A' c' (hS.1 hd) (ho hd)⟩, rfl, fun j u hj hdj hR => putR_store hR⟩
      omega
    · intro done f w8 hS hR hD
      have hfin := hS.2 (hD 8 (by decide))
      have HF := Lib.hid hfin
      clear hR hD hS hfin
      simp only [putAll, List.foldl_cons, List.foldl_nil, Act.put, List.setIfInBounds_toArray, List.set_cons_succ, List.set_cons_zero]
      go_wp2
      go_ret
      exact ⟨rfl, HF.out.1, HF.out.2⟩
  · have he : spoilErr3 s a l = 30 := by unfold spoilErr3; rw [if_neg hok]
    have hst : spoilSt3 s a l = s := by unfold spoilSt3; rw [he]; rfl
    rw [he, hst]
    have HRD := Lib.hid h
    clear he hst hr h
    cases hh : has3 s a
    · rw [hh] at HH
      clear hok hh
      go_enter Try.func28, Try.ntmps28
      go_wp2_with (go_at_call 37; refine HH.out.mono ?_; rintro e _ ⟨rfl, rfl⟩)
      go_ret
      exact ⟨rfl, ⟨_, HRD.out⟩, Keep.refl _ _⟩
    · rw [hh] at HH
      have hne : ((l.length : Int) != 128) = true := by
        rw [bne_iff_ne]
        intro e
        apply hok
        rw [hh]
        simp
        omega
      generalize l.length = m at *
      clear hok hh
      go_enter Try.func28, Try.ntmps28
      go_wp2_with (go_at_call 37; refine HH.out.mono ?_; rintro e _ ⟨rfl, rfl⟩)
      go_ret
      exact ⟨rfl, ⟨_, HRD.out⟩, Keep.refl _ _⟩
end

end Go.Proofs.Ytomimkackekjkaa

/-
  The disk of layer 3: what waits; one sector's bytes laid anew, where they stay, or where they wait; Spoil.
-/
import Derived.Test.YtkebbjodkhjbmaaKDiskR
import Derived.Lib.SlKeysI
namespace Go.Proofs.Ytkebbjodkhjbmaa
open Go.RowKit Go.Maps

/-- Which of the sectors ahead of k wait. -/
def pendTo (cache : List (List UInt8)) : Nat → List Int
  | 0 => []
  | k + 1 => if 0 < (cache.getD k []).length then pendTo cache k ++ [(k : Int)] else pendTo cache k
theorem pendTo_waits (s : RSt) : ∀ k, waitsTo s k = pendTo s.cache k
  | 0 => rfl
  | k + 1 => by
    unfold waitsTo pendTo
    rw [pendTo_waits s k]
theorem pendTo_length (cache : List (List UInt8)) : ∀ k, (pendTo cache k).length ≤ k
  | 0 => Nat.le_refl _
  | k + 1 => by
    unfold pendTo
    have := pendTo_length cache k
    split
    · rw [List.length_append]
      simp only [List.length_cons, List.length_nil]
      omega
    · omega
theorem mem_pendTo {cache : List (List UInt8)} {x : Int} : ∀ {n : Nat}, x ∈ pendTo cache n ↔ ∃ k : Nat, k < n ∧ x = (k : Int) ∧ 0 < (cache.getD k []).length
  | 0 => by
    unfold pendTo
    constructor
    · intro h; cases h
    · rintro ⟨k, hk, _⟩; omega
  | n + 1 => by
    have ih := mem_pendTo (cache := cache) (x := x) (n := n)
    unfold pendTo
    split
    · rename_i hp
      rw [List.mem_append, ih, List.mem_singleton]
      constructor
      · rintro (⟨k, hk, e, h⟩ | rfl)
        · exact ⟨k, by omega, e, h⟩
        · exact ⟨n, by omega, rfl, hp⟩
      · rintro ⟨k, hk, e, h⟩
        by_cases hkn : k = n
        · subst hkn; exact .inr e
        · exact .inl ⟨k, by omega, e, h⟩
    · rename_i hp
      rw [ih]
      constructor
      · rintro ⟨k, hk, e, h⟩
        exact ⟨k, by omega, e, h⟩
      · rintro ⟨k, hk, e, h⟩
        by_cases hkn : k = n
        · subst hkn; exact absurd h hp
        · exact ⟨k, by omega, e, h⟩
theorem pendTo_lt {cache : List (List UInt8)} {n : Nat} {x : Int} (h : x ∈ pendTo cache n) : 0 ≤ x ∧ x < (n : Int) := by
  obtain ⟨k, hk, rfl, _⟩ := mem_pendTo.1 h
  omega
theorem pendTo_rises (cache : List (List UInt8)) : ∀ n, (pendTo cache n).Pairwise (fun a b => a < b)
  | 0 => List.Pairwise.nil
  | n + 1 => by
    have ih := pendTo_rises cache n
    unfold pendTo
    split
    · refine List.pairwise_append.2 ⟨ih, List.pairwise_singleton _ _, fun a ha b hb => ?_⟩
      rw [List.mem_singleton] at hb
      subst hb
      exact (pendTo_lt ha).2
    · exact ih
theorem pendTo_nodup (cache : List (List UInt8)) (n : Nat) : (pendTo cache n).Nodup := (pendTo_rises cache n).imp fun h => by omega

/-- The pending sectors are the map's keys. -/
theorem CacheIs.keys {w : World} {m n : Nat} {D : DataW Unit} {cache : List (List UInt8)} (hC : CacheIs D cache) (hown : w.ownsMap Try.prog 3 secR m n D) : (pendTo cache cache.length).Perm (intKeys D) := by
  obtain ⟨es, hD, hpw, _⟩ := hown.entries (int_keyed Try.underlying3)
  obtain ⟨es', hD', hko⟩ := hown.keysOf
  obtain rfl : es = es' := by rw [hD] at hD'; simpa using hD'
  subst hD
  refine perm_intKeys hpw (fun p hp => by obtain ⟨v, hv⟩ := hko p hp; obtain ⟨x, _, hx, _⟩ := Maps.keyOf_i64 Try.underlying3 hv; exact ⟨x, hx⟩) (pendTo_nodup _ _) (fun x => ?_)
  rw [mem_pendTo]
  constructor
  · rintro ⟨k, hk, rfl, h0⟩
    exact (hC.yes k _ (get_at hk) h0).1
  · intro h
    obtain ⟨k, l, e, hl, h0⟩ := hC.only x h
    have hk := (List.getElem?_eq_some_iff.1 hl).1
    refine ⟨k, hk, e, ?_⟩
    rw [get_at hk] at hl
    injection hl with hl
    rw [hl]
    exact h0
theorem CacheIs.size {w : World} {m n : Nat} {D : DataW Unit} {cache : List (List UInt8)} (hC : CacheIs D cache) (hown : w.ownsMap Try.prog 3 secR m n D) : Maps.size D ≤ cache.length := by
  have hp := (hC.keys hown).length_eq
  have hl := pendTo_length cache cache.length
  obtain ⟨es, rfl, _⟩ := hown.entries (int_keyed Try.underlying3)
  have e : (intKeys (DataW.map es)).length = es.length := List.length_map _
  show es.length ≤ _
  omega
theorem ownsMap_tight {w : World} {m n k : Nat} {D : DataW Unit} (h : w.ownsMap Try.prog 3 secR m n D) (hk : Maps.size D ≤ k) : w.ownsMap Try.prog 3 secR m k D := by
  obtain ⟨es, clock, hb, F, hs, hD⟩ := h
  refine ⟨es, clock, hb, F, ?_, hD⟩
  have : Maps.size D = es.size := by
    rw [hD, size_eq, length_sorted]
    simp
  omega

theorem CacheIs.put {w : World} {m n : Nat} {D : DataW Unit} {cache : List (List UInt8)} (hC : CacheIs D cache) (hown : w.ownsMap Try.prog 3 secR m n D) {k : Nat} {l : List UInt8} (hl : 0 < l.length) (hk : k < cache.length) : CacheIs (D.put (.int .i64 (k : Int)) (.lit (.string l))) (cache.set k l) := by
  have hm : IsMap D := by
    obtain ⟨es, rfl, _⟩ := hown.entries (int_keyed Try.underlying3)
    exact ⟨es, rfl⟩
  have hkl : WideAt.IsKeyLit (.int .i64 (k : Int)) := trivial
  refine ⟨fun k' l' hl' h0 => ?_, fun x hx => ?_⟩
  · by_cases e : k = k'
    · subst e
      rw [List.getElem?_set_self hk] at hl'
      injection hl' with hl'
      subst hl'
      exact ⟨has_put_same hm hkl _, fun z => atKey_put_same hm hkl _ z⟩
    · rw [List.getElem?_set_ne e] at hl'
      have hne : (Lit.int .i64 (k' : Int)) ≠ .int .i64 (k : Int) := fun h => e (by injection h with _ h; omega)
      obtain ⟨y1, y2⟩ := hC.yes k' l' hl' h0
      exact ⟨by rw [has_put_other hne]; exact y1, fun z => by rw [atKey_put_other hne]; exact y2 z⟩
  · by_cases e : x = (k : Int)
    · exact ⟨k, l, e, List.getElem?_set_self hk, hl⟩
    · have hne : (Lit.int .i64 x) ≠ .int .i64 (k : Int) := fun h => e (by injection h)
      rw [has_put_other hne] at hx
      obtain ⟨k', l', e', hl', h0⟩ := hC.only x hx
      refine ⟨k', l', e', ?_, h0⟩
      rw [List.getElem?_set_ne (fun ee => e (by rw [e', ee]))]
      exact hl'

theorem keep_grown {S : Nat → Prop} {w w' : World} {row : Option Nat} (hg : w.grownBy w' row) (hS : ∀ k, row = some k → S k) : Keep S w w' :=
  ⟨hg.os, hg.tape, hg.output, hg.size, fun k hk hn => hg.block k hk (fun e => hn (hS k e.symm))⟩

section
variable {w w' : World} {d : DAt} {kv : Value} {s : RSt}

theorem DK.putS (h : DK w d kv s) (hk : Keep (fun i => i = d.g) w w') {ls : List (List UInt8)} (hD : Dur w' d.g d.cS ls) (hl : ls.length = s.stays.length) (h8 : ∀ l ∈ ls, l.length = 128) : DK w' d kv { s with stays := ls } := by
  have ht := h.foot_typ _ (.inr (.inl rfl))
  refine ⟨⟨by rw [hl]; exact h.ok.same, by rw [hl]; exact h.ok.few, h8, h.ok.wait⟩, ⟨h.more.many, h.more.write, h.more.torn, h.more.at_, h.more.keep⟩, by rw [hl]; exact h.some_, ?_, hD, h.cac.keep hk (fun e => h.g_ne_m e.symm), h.kHead.keep hk (fun k e => by subst e; exact ht.1)⟩
  have := hk.blk h.blk (fun e => h.b_ne_g e)
  rw [hl]
  exact this
theorem DK.putC (h : DK w d kv s) (hk : Keep (fun i => i = d.m) w w') {cs : List (List UInt8)} (hD : MapOf w' d.m cs) (hl : cs.length = s.cache.length) (h8 : ∀ l ∈ cs, l.length = 0 ∨ l.length = 128) : DK w' d kv { s with cache := cs } := by
  have ht := h.foot_typ _ (.inr (.inr rfl))
  exact ⟨⟨by rw [hl]; exact h.ok.same, h.ok.few, h.ok.stay, h8⟩, ⟨h.more.many, h.more.write, h.more.torn, h.more.at_, h.more.keep⟩, h.some_, hk.blk h.blk (fun e => h.b_ne_m e), h.dur.keep hk (fun e => h.g_ne_m e), hD, h.kHead.keep hk (fun k e => by subst e; exact ht.1)⟩

theorem mem_set_len {ls : List (List UInt8)} {k : Nat} {l : List UInt8} (h : ∀ m ∈ ls, m.length = 128) (hl : l.length = 128) : ∀ m ∈ ls.set k l, m.length = 128 := fun m hm => by
  rcases List.mem_or_eq_of_mem_set hm with hm | rfl
  · exact h _ hm
  · exact hl
theorem mem_set_len2 {ls : List (List UInt8)} {k : Nat} {l : List UInt8} (h : ∀ m ∈ ls, m.length = 0 ∨ m.length = 128) (hl : l.length = 0 ∨ l.length = 128) : ∀ m ∈ ls.set k l, m.length = 0 ∨ m.length = 128 := fun m hm => by
  rcases List.mem_or_eq_of_mem_set hm with hm | rfl
  · exact h _ hm
  · exact hl

theorem sizeU8 : (Try.prog.info? 5).map (·.size) = some 1 := by kernel_rfl

set_option maxRecDepth 100000 in
set_option maxHeartbeats 2000000 in
theorem dspoil_any (a : Int) (A : Option Addr) (c : Nat) (l : List UInt8) (h : DK w d kv s) (hr : Reads w w.heap.size 1 A l.length (l.map bv)) :
    Calls Try.prog 20 #[.pointer (some ⟨d.b, 0, none⟩), .int .i64 a, .slice A l.length c] w fun e w' => e = .returned (.int .i64 (spoilErr3 s a l)) ∧ DK w' d kv (spoilSt3 s a l) ∧ Keep (fun k => k = d.g) w w' := by
  have c1 : w.cell? ⟨d.b, 1, none⟩ = some (.slice (some ⟨d.g, 0, none⟩) s.stays.length d.cS) := h.blk.cell 1
  have HV := Lib.hid (dvalid_any h)
  have HT := Lib.hid (dtakes_any a A l.length c h)
  have hf := h.ok.few
  cases ht : takes3 s a l.length
  · have he : spoilErr3 s a l = 30 := by
      unfold spoilErr3
      rw [if_neg]
      intro hx
      unfold takes3 at ht
      simp only [Bool.and_eq_true, beq_iff_eq] at hx
      rw [hx.1, hx.2] at ht
      cases ht
    have ho : spoilSt3 s a l = s := by unfold spoilSt3; rw [he]; rfl
    rw [ht] at HT
    rw [he, ho]
    have H := Lib.hid h
    clear h hr he ho ht
    go_enter Try.func20, Try.ntmps20
    go_wp2_with (first
      | (go_at_call 29; refine HV.out.mono ?_; rintro e _ ⟨rfl, rfl⟩)
      | (go_at_call 33; refine HT.out.mono ?_; rintro e _ ⟨rfl, rfl⟩))
    go_ret
    exact ⟨rfl, H.out, Keep.refl _ _⟩
  · have htt := ht
    unfold takes3 at htt
    simp only [Bool.and_eq_true, decide_eq_true_eq] at htt
    have he : spoilErr3 s a l = 0 := by unfold spoilErr3; rw [if_pos (by rw [htt.1, htt.2]; rfl)]
    have ho : spoilSt3 s a l = { s with stays := s.stays.set a.toNat l } := by unfold spoilSt3; rw [he]; rfl
    rw [ht] at HT
    rw [he, ho]
    have hin : 0 ≤ a ∧ a < (s.stays.length : Int) := of_decide_eq_true htt.1
    obtain ⟨k, rfl⟩ := Int.eq_ofNat_of_zero_le hin.1
    have hk : k < s.stays.length := by omega
    have h128 := htt.2
    rw [Int.toNat_natCast]
    obtain ⟨ad, rfl, _, hsrc⟩ := hr.2 (by omega)
    obtain ⟨cur, hb, q1, q2, q3⟩ := h.dur
    have hfit : k * 128 + (l.map bv).length ≤ cur.size := by rw [List.length_map]; omega
    have hml : (l.map bv).length = 128 := by rw [List.length_map]; exact h128
    obtain ⟨NC, hNC⟩ : ∃ NC, (cur.toList.take (k * 128) ++ (l.map bv ++ cur.toList.drop (k * 128 + (l.map bv).length))).toArray = NC := ⟨_, rfl⟩
    have hnew : Blk (w.setRow d.g NC) d.g 64 NC := setRow_heap _ _ _ _ _ _ hb
    have hkeep : Keep (fun i => i = d.g) w (w.setRow d.g NC) := (Keep.refl _ w).setRow _ (fun _ => rfl)
    have e1 : l.take 128 = l := List.take_of_length_le (by omega)
    have hdur : Dur (w.setRow d.g NC) d.g d.cS (s.stays.set k l) := by
      have h3 : (s.stays[k]).length = 128 := h.ok.stay _ (List.getElem_mem hk)
      have h2 := Dur.splice (w' := w.setRow d.g NC) (cur := cur) (n := 128) (old := s.stays[k]) (l := l) (k := k) (by rw [e1, hNC]; exact hnew) q1 q2 q3 h.ok.stay (List.getElem?_eq_getElem hk) h128 (Nat.le_refl _)
      rwa [e1, List.drop_of_length_le (by omega), List.append_nil] at h2
    have HF := Lib.hid (And.intro (h.putS hkeep hdur List.length_set (mem_set_len h.ok.stay h128)) hkeep)
    have HB := Lib.hid (show w.heap[d.g]? = some (.cells cur 64 (0, 0)) from hb)
    have HNC := Lib.hid hNC
    have HSRC := Lib.hid hsrc
    have HML := Lib.hid hml
    have HFIT := Lib.hid hfit
    obtain ⟨Y, hY⟩ : ∃ Y, l.map bv = Y := ⟨_, rfl⟩
    have HONE := Lib.hid (bv_one l)
    rw [hY] at HNC HSRC HML HFIT HONE
    rw [h128] at HT ⊢
    generalize hn : s.stays.length = n at *
    clear h hr he ho ht htt hb q1 q2 q3 hfit hml hNC hnew hkeep e1 hdur h128 hsrc hY
    go_enter Try.func20, Try.ntmps20
    go_wp2_with (first
      | (go_at_call 29; refine HV.out.mono ?_; rintro e _ ⟨rfl, rfl⟩)
      | (go_at_call 33; refine HT.out.mono ?_; rintro e _ ⟨rfl, rfl⟩)
      | (with_reducible refine wpList_copy_own rfl (.tmp 21) (.tmp 22) 33 33 rfl 5 Try.underlying33 sizeU8 d.g (k * 128) 128 128 ad 128 c rfl rfl cur 64 HB.out Y (HML.out.trans (by decide)) HSRC.out HFIT.out HONE.out ?_; rw [HNC.out]))
    go_ret
    exact ⟨rfl, HF.out.1, HF.out.2⟩

theorem dspoil_dead (p : Option Addr) (a : Int) (A : Option Addr) (n c : Nat) (w : World) (h : Dead w p) : Calls Try.prog 20 #[.pointer p, .int .i64 a, .slice A n c] w fun e w' => e = .returned (.int .i64 1) ∧ w = w' := by
  have HV := Lib.hid (dvalid_dead p w h)
  clear h
  go_enter Try.func20, Try.ntmps20
  go_wp2_with (go_at_call 29; refine HV.out.mono ?_; rintro e _ ⟨rfl, rfl⟩)
  go_ret
  exact ⟨rfl, rfl⟩
end

end Go.Proofs.Ytkebbjodkhjbmaa

/-
  The disk of layer 3: Flush.
-/
import Derived.Test.YtkebbjodkhjbmaaKDiskW
import Derived.StillTailTactics
namespace Go.Proofs.Ytkebbjodkhjbmaa
open Go.RowKit Go.Maps Go.MapKept Go.ChangeMaps

section
variable {P : Program} {w : World} {ops : Array Oper} {rest : List Oper} {o : Oper} {a : Act}

theorem wpStill_load_mid {Q : Act → Prop} (hgd : o.guard = none) (ty : TypeId) (x : Operand) (ho : o.op = .load ty x)
    (b off : Nat) (hx : a.eval x = .pointer (some ⟨b, off, none⟩)) (cs : List Value) (d : TypeDesc) (hc : w.rangeAt b off cs)
    (hu : P.underlying ty = some d) (hd : d.isRow = true) (hi : (P.info? ty).map (·.size) = some cs.length)
    (h : wpStill P ops w Q rest (a.put o.dst (.agg cs.toArray))) : wpStill P ops w Q (o :: rest) a := by
  have hw : Region.wanted o (yielded ops a.tmps) = true := by simp [Region.wanted, hgd]
  refine wpStill_step fun K hK => ?_
  rw [if_pos hw]
  unfold Oper.still execOp
  simp only [ho, hx, Instr.loadAt, Instr.sureAddr, Sem.run_bind, Sem.run_pure, Result.andThen_ok, run_loadVar_mid w b off ty cs d hc hu hd hi]
  rw [Oper.stillUpon_value]
  exact hK _ h

theorem run_clear_map (t k e : TypeId) (ht : P.underlying t = some (.map k e)) (ty : TypeId) {r : Nat} {es : Array MapEntry} {clock : Nat} (hb : w.heap[r]? = some (.map es clock)) :
    (Builtin.clear_ #[t] ty #[.map (some r)]).run P w = .ok (.tuple #[]) (setBlock w r (.map #[] clock)) := by
  simp [Builtin.clear_, run_underlying ht, MapKept.run_getObj_map hb, MapKept.run_setObj_map _ hb, Result.andThen]
  rfl

theorem wpList_clear_map {Q : Exit → Act → World → Prop} (hg : o.guard = none) (m : Operand) (t : TypeId) (hop : o.op = Op.call { callee := Callee.builtin Builtin.clear, args := #[m], argTypes := #[t] })
    (k e : TypeId) (ht : P.underlying t = some (.map k e)) (b : Nat) (hm : a.eval m = .map (some b)) (es : Array MapEntry) (clock : Nat) (hb : w.heap[b]? = some (.map es clock))
    (hK : wpList P ops Q rest (a.put o.dst (.tuple #[])) (setBlock w b (.map #[] clock))) : wpList P ops Q (o :: rest) a w := by
  refine wpList_plain hg fun K' hK' => ?_
  unfold Oper.wp
  simp [execOp, hop, resolve, invoke, builtin, hm, run_clear_map t k e ht o.type hb, Result.andThen]
  exact hK' _ _ hK
end

theorem keep_setBlock {S : Nat → Prop} {w0 w : World} {b : Nat} {es : Array MapEntry} {clock : Nat} {o : Obj} (h : Keep S w0 w) (hm : w.heap[b]? = some (.map es clock)) (hb : b < w0.heap.size → S b) : Keep S w0 (setBlock w b o) :=
  ⟨h.os, h.tape, h.output, by simp [setBlock]; exact h.size, fun k hk hn => (heap_setBlock_other hm o (i := k) (fun e => hn (e ▸ hb (e ▸ hk)))).trans (h.block k hk hn)⟩

theorem MapOf.clear {w : World} {m n : Nat} {cache : List (List UInt8)} {es : Array MapEntry} {clock : Nat} (_h : MapOf w m cache) (hb : w.heap[m]? = some (.map es clock)) : MapOf (setBlock w m (.map #[] clock)) m (List.replicate n []) := by
  refine ⟨.map [], ⟨#[], clock, heap_setBlock_same hb _, ⟨by simp, stamped_empty clock, by simp⟩, by simp, rfl⟩, ⟨fun k l hl h0 => ?_, fun x hx => by cases hx⟩⟩
  have : l = [] := by
    have := List.mem_of_getElem? hl
    rw [List.mem_replicate] at this
    exact this.2
  subst this
  cases h0

/-- The sectors, those that wait and of which p holds by f. -/
def mixL (s : RSt) (p : Nat → Bool) (f : Nat → List UInt8) : List (List UInt8) := (List.range s.stays.length).map fun k => if 0 < (s.cache.getD k []).length ∧ p k = true then f k else s.stays.getD k []
theorem mixL_length (s : RSt) (p : Nat → Bool) (f : Nat → List UInt8) : (mixL s p f).length = s.stays.length := by unfold mixL; simp
theorem mixL_at {s : RSt} {p : Nat → Bool} {f : Nat → List UInt8} {k : Nat} (hk : k < s.stays.length) : (mixL s p f)[k]? = some (if 0 < (s.cache.getD k []).length ∧ p k = true then f k else s.stays.getD k []) := by
  unfold mixL
  rw [List.getElem?_map, List.getElem?_range hk]
  rfl
theorem mixL_start {s : RSt} {p : Nat → Bool} {f : Nat → List UInt8} (h : ∀ k, 0 < (s.cache.getD k []).length → p k = false) : mixL s p f = s.stays := by
  apply List.ext_getElem?
  intro k
  by_cases hk : k < s.stays.length
  · rw [mixL_at hk, get_at hk, if_neg]
    rintro ⟨h1, h2⟩
    rw [h k h1] at h2
    cases h2
  · rw [List.getElem?_eq_none (by rw [mixL_length]; omega), List.getElem?_eq_none (by omega)]
theorem mixL_step {s : RSt} {p q : Nat → Bool} {f : Nat → List UInt8} {k : Nat} (hk : k < s.stays.length) (h0 : 0 < (s.cache.getD k []).length) (hq : q k = true) (ho : ∀ j, j ≠ k → q j = p j) : mixL s q f = (mixL s p f).set k (f k) := by
  apply List.ext_getElem?
  intro j
  by_cases hj : j < s.stays.length
  · by_cases e : k = j
    · subst e
      rw [List.getElem?_set_self (by rw [mixL_length]; exact hk), mixL_at hk, if_pos ⟨h0, hq⟩]
    · rw [List.getElem?_set_ne e, mixL_at hj, mixL_at hj, ho j (fun h => e h.symm)]
  · rw [List.getElem?_eq_none (by rw [mixL_length]; omega), List.getElem?_eq_none (by rw [List.length_set, mixL_length]; omega)]
theorem mixL_end {s : RSt} {p q : Nat → Bool} {f : Nat → List UInt8} (h : ∀ k, 0 < (s.cache.getD k []).length → p k = q k) : mixL s p f = mixL s q f := by
  apply List.ext_getElem?
  intro k
  by_cases hk : k < s.stays.length
  · rw [mixL_at hk, mixL_at hk]
    by_cases h0 : 0 < (s.cache.getD k []).length
    · rw [h k h0]
    · rw [if_neg (fun x => h0 x.1), if_neg (fun x => h0 x.1)]
  · rw [List.getElem?_eq_none (by rw [mixL_length]; omega), List.getElem?_eq_none (by rw [mixL_length]; omega)]
theorem mixL_len {s : RSt} {p : Nat → Bool} {f : Nat → List UInt8} (hs : ∀ l ∈ s.stays, l.length = 128) (hf : ∀ k, 0 < (s.cache.getD k []).length → k < s.stays.length → (f k).length = 128) : ∀ l ∈ mixL s p f, l.length = 128 := by
  intro l hl
  obtain ⟨k, hk, rfl⟩ := List.mem_map.1 hl
  rw [List.mem_range] at hk
  split
  · rename_i h
    exact hf k h.1 hk
  · exact hs _ (get_mem hk)

def flushK (s : RSt) : RSt := if s.down then s else { s with stays := mixL s (fun _ => true) (fun k => s.cache.getD k []), cache := List.replicate s.stays.length [] }

theorem mk_setRow_range {w : World} {g : Nat} {t : TypeId} {Y : List Value} (hb : w.heap[g]? = some (.cells Y.toArray t (0, 0))) : w.rangeAt g 0 Y := fun j v hv => by
  rw [cell_of_row w g (0 + j) _ t (0, 0) hb, Nat.zero_add]
  simpa using hv

section
variable {w : World} {d : DAt} {kv : Value} {s : RSt}

set_option maxRecDepth 100000 in
set_option maxHeartbeats 2000000 in
theorem dflush_any (h : DK w d kv s) :
    Calls Try.prog 14 #[.pointer (some ⟨d.b, 0, none⟩)] w fun e w' => e = .returned (.int .i64 (if s.down then 31 else 0)) ∧ DK w' d kv (flushK s) ∧ Keep d.foot w w' := by
  have HU := Lib.hid (dusable_any h)
  have c2 : w.cell? ⟨d.b, 2, none⟩ = some (.map (some d.m)) := h.blk.cell 2
  cases hd : s.down
  · rw [hd] at HU
    have HFK : Hid (flushK s = { s with stays := mixL s (fun _ => true) (fun k => s.cache.getD k []), cache := List.replicate s.stays.length [] }) := Lib.hid (by unfold flushK; rw [if_neg (by rw [hd]; decide)])
    obtain ⟨D, hown, hC⟩ := h.cac
    have H := Lib.hid h
    have HC := Lib.hid hC
    have HO := Lib.hid hown
    have hz := zeroSec
    obtain ⟨Z, hZ⟩ : ∃ Z, ((List.replicate 128 0).map bv).toArray = Z := ⟨_, rfl⟩
    have hzv : secV (List.replicate 128 0) = .agg Z := by rw [← hZ]; rfl
    have hZs : Z.size = 128 := by rw [← hZ]; simp
    rw [hzv] at hz
    have HZS := Lib.hid hZs
    clear h hC hown hZ hzv hZs hd
    go_enter Try.func14, Try.ntmps14
    go_wp2_with (first
      | (go_at_call 30; refine HU.out.mono ?_; rintro e _ ⟨rfl, rfl⟩)
      | (at_range; refine wpList_range_own _ rfl _ 49 rfl 3 64 (int_keyed Try.underlying3) Try.underlying49 secR d.m 4096 D rfl HO.out ?_; intro w0 hrg0 hg0 hs0)
      | go_in)
    go_frame
    have HRG0 := Lib.hid hrg0
    have HG0 := Lib.hid hg0
    clear hrg0 hg0 hs0
    go_loopw [4] (fun _ wr => ∃ (left : Lit → Bool) (cnt : Nat), wr.ranges Try.prog 3 secR d.m w.heap.size 4096 D left cnt ∧ Dur wr d.g d.cS (mixL s (fun k => !left (.int .i64 (k : Int))) (fun k => s.cache.getD k [])) ∧ Keep (fun k => k = d.g) w wr) (fun _ wr => wr.rangeLeft d.m w.heap.size)
    case atStart =>
      have hk0 : Keep (fun k => k = d.g) w w0 := keep_grown HG0.out (fun k e => by cases e)
      refine ⟨_, _, HRG0.out, ?_, hk0⟩
      rw [mixL_start]
      · obtain ⟨cur, hb, q⟩ := H.out.dur
        exact ⟨cur, (HG0.out.block d.g hb.lt (by simp)).trans hb, q⟩
      · intro k hp
        have hlt : k < s.cache.length := by
          rcases Nat.lt_or_ge k s.cache.length with h | h
          · exact h
          · rw [List.getD_eq_getElem?_getD, List.getElem?_eq_none h] at hp; cases hp
        rw [(HC.out.yes k _ (get_at hlt) hp).1]
        rfl
    case round =>
      obtain ⟨left, cnt, hrg, hdur, hkp⟩ := hrel
      have hbk : Blk wr d.b _ _ := hkp.blk H.out.blk (fun e => H.out.b_ne_g e)
      have e2 : wr.cell? ⟨d.b, 2, none⟩ = some (.map (some d.m)) := hbk.cell 2
      have HRG := Lib.hid hrg
      have HDUR := Lib.hid hdur
      have HKP := Lib.hid hkp
      have HBK := Lib.hid hbk
      clear hrg hdur hkp hbk
      go_wp2_with (first
        | (at_next; refine wpList_next_ranges _ rfl _ rfl 3 (int_keyed Try.underlying3) secR (Value.int .i64) secV (fun key kl hk => by obtain ⟨x, hx, _⟩ := Maps.keyOf_i64 Try.underlying3 hk; exact ⟨x, hx⟩) (fun v y hy => by obtain ⟨l, _, e, _⟩ := secR_inv hy; exact ⟨l, e⟩) d.m w.heap.size 4096 D left cnt rfl HRG.out ?_ ?_)
        | go_in)
      · intro hc0 hl0
        obtain ⟨es, clock, hm⟩ : ∃ es clock, wr.heap[d.m]? = some (.map es clock) := by
          obtain ⟨es, clock, hb, _⟩ := HRG.out.owns
          exact ⟨es, clock, hb⟩
        have hmap : MapOf wr d.m s.cache := ⟨D, HRG.out.owns, HC.out⟩
        have hfin : DK (setBlock wr d.m (.map #[] clock)) d kv { s with stays := mixL s (fun _ => true) (fun k => s.cache.getD k []), cache := List.replicate s.stays.length [] } := by
          have h1 : DK wr d kv { s with stays := mixL s (fun _ => true) (fun k => s.cache.getD k []) } := by
            have hk := HKP.out
            have ht := H.out.foot_typ _ (.inr (.inl rfl))
            have hlen := mixL_length s (fun _ => true) (fun k => s.cache.getD k [])
            refine ⟨⟨by rw [hlen]; exact H.out.ok.same, by rw [hlen]; exact H.out.ok.few, ?_, H.out.ok.wait⟩, ⟨H.out.more.many, H.out.more.write, H.out.more.torn, H.out.more.at_, H.out.more.keep⟩, by rw [hlen]; exact H.out.some_, by rw [hlen]; exact HBK.out, ?_, hmap, H.out.kHead.keep hk (fun k e => by subst e; exact ht.1)⟩
            · refine mixL_len H.out.ok.stay (fun k hp hk => ?_)
              have := H.out.ok.wait _ (get_mem (k := k) (by rw [H.out.ok.same]; exact hk))
              omega
            · have hd := HDUR.out
              rw [mixL_end (q := fun _ => true) (fun k _ => by rw [hl0]; rfl)] at hd
              exact hd
          exact h1.putC (keep_setBlock (Keep.refl _ _) hm (fun _ => rfl)) (hmap.clear hm) (by rw [List.length_replicate]; exact H.out.ok.same.symm) (fun l hl => by rw [(List.mem_replicate.1 hl).2]; exact .inl rfl)
        have hkfin : Keep d.foot w (setBlock wr d.m (.map #[] clock)) := keep_setBlock (HKP.out.more (fun k _ e => .inr (.inl e))) hm (fun _ => .inr (.inr rfl))
        have HF := Lib.hid (And.intro hfin hkfin)
        have HM := Lib.hid hm
        clear hfin hkfin hm hmap hc0 hl0
        go_wp2_with (with_reducible refine wpList_clear_map rfl (.tmp 31) 49 rfl 3 64 Try.underlying49 d.m rfl es clock HM.out ?_)
        go_ret
        exact ⟨rfl, by rw [HFK.out]; exact HF.out.1, HF.out.2⟩
      · intro x l kl y yp w2 cnt2 hkey hlk hv hat hrg2 hlt hg2 hs2 hen
        obtain ⟨x', ex, ekl, _⟩ := Maps.keyOf_i64 Try.underlying3 hkey
        obtain rfl : x = x' := encZ_inj ex
        subst ekl
        obtain ⟨k, lk, rfl, hck, hp⟩ := HC.out.only x (has_true_of_atKey hat)
        obtain ⟨l', hl128, el, ey⟩ := secR_inv hv
        obtain rfl : l = l' := secV_inj el
        have hyl : y = .lit (.string l) := by injection ey
        obtain rfl : l = lk := by
          have := (HC.out.yes k lk hck hp).2 y
          rw [hat y, hyl] at this
          simpa using this
        have hkn : k < s.stays.length := by rw [← H.out.ok.same]; exact (List.getElem?_eq_some_iff.1 hck).1
        have hgd : s.cache.getD k [] = l := by
          rw [List.getD_eq_getElem?_getD, hck]
          rfl
        -- the worlds of the round
        have hk2 : Keep (fun k => k = d.g) w w2 := HKP.out.trans (keep_grown (S := fun k => k = w.heap.size) hg2 (fun k e => by injection e with e; exact e.symm)) (fun i hi e => by omega)
        have hr := hrg2.lt
        obtain ⟨Y, hY⟩ : ∃ Y, l.map bv = Y := ⟨_, rfl⟩
        obtain ⟨X, hX⟩ : ∃ X, Y.toArray = X := ⟨_, rfl⟩
        have hYs : Y.length = 128 := by rw [← hY, List.length_map]; exact hl128
        have hXs : X.size = 128 := by rw [← hX]; simpa using hYs
        have hX1 : X.all (·.oneCell') = true := by rw [← hX, ← hY]; exact oneSec l
        have hxv : secV l = .agg X := by rw [← hX, ← hY]; rfl
        have hA := heap_alloc_new w2 (.cells Z 64)
        obtain ⟨W4, hW4⟩ : ∃ W4, (w2.alloc (.cells Z 64)).setRow w2.heap.size X = W4 := ⟨_, rfl⟩
        have hB4 : Below w2.heap.size w2 W4 := by rw [← hW4]; exact below_setRow ((Below.refl _ _).alloc (Nat.le_refl _) _) (Nat.le_refl _) X
        have hH4 : W4.heap[w2.heap.size]? = some (.cells X 64 (0, 0)) := by rw [← hW4]; exact setRow_heap _ _ _ _ _ _ hA
        have hk4 : Keep (fun k => k = d.g) w W4 := hk2.trans (Keep.of_below (S := fun _ => False) hB4) (fun _ _ h => h.elim)
        have hb4 : Blk W4 d.b _ _ := hk4.blk H.out.blk (fun e => H.out.b_ne_g e)
        have hd4 : Dur W4.drew d.g d.cS (mixL s (fun k => !left (.int .i64 (k : Int))) (fun k => s.cache.getD k [])) := by
          have h1 := HDUR.out.keep (keep_grown (S := fun k => k = w.heap.size) hg2 (fun k e => by injection e with e; exact e.symm)) (fun e => by have := H.out.lt _ (.inr (.inl rfl)); omega)
          have h2 := h1.keep (Keep.of_below (S := fun _ => False) hB4) (fun h => h)
          exact h2
        have e1 : W4.drew.cell? ⟨d.b, 1, none⟩ = some (.slice (some ⟨d.g, 0, none⟩) s.stays.length d.cS) := hb4.cell 1
        have hR4 : W4.drew.rangeAt w2.heap.size 0 Y := mk_setRow_range (w := W4.drew) (by rw [hX]; exact hH4)
        have hT4 : W4.drew.there d.g (k * 128) 128 := hd4.there (by rw [mixL_length]; exact hkn)
        have hf := H.out.ok.few
        -- behind the round
        have hfin : (∃ (left : Lit → Bool) (cnt' : Nat), (W4.drew.setCells d.g (k * 128) X.toList).ranges Try.prog 3 secR d.m w.heap.size 4096 D left cnt' ∧ Dur (W4.drew.setCells d.g (k * 128) X.toList) d.g d.cS (mixL s (fun k => !left (.int .i64 (k : Int))) (fun k => s.cache.getD k [])) ∧ Keep (fun k => k = d.g) w (W4.drew.setCells d.g (k * 128) X.toList)) ∧ (W4.drew.setCells d.g (k * 128) X.toList).rangeLeft d.m w.heap.size < wr.rangeLeft d.m w.heap.size := by
          have hk5 : Keep (fun k => k = d.g) W4.drew (W4.drew.setCells d.g (k * 128) X.toList) := keep_setCells X.toList _ _ (Keep.refl _ _) (fun _ => rfl)
          have hrg5 : (W4.drew.setCells d.g (k * 128) X.toList).ranges Try.prog 3 secR d.m w.heap.size 4096 D (fun z => left z && !z.sameKey (.int .i64 (k : Int))) cnt2 := by
            have hm2 := hrg2.owns.lt
            obtain ⟨es, clock, since, seen, c0, b1, b2, b3, b4, b5, brest⟩ := hrg2
            have hmm : d.m ≠ d.g := fun e => H.out.g_ne_m e.symm
            have hgg : w.heap.size ≠ d.g := fun e => by have := H.out.lt _ (.inr (.inl rfl)); omega
            have hz4 := hB4.size
            exact ⟨es, clock, since, seen, c0, (hk5.block d.m (by show d.m < W4.heap.size; omega) hmm).trans ((hB4.block d.m hm2).trans b1), b2, b3, b4, (hk5.block _ (by show w.heap.size < W4.heap.size; omega) hgg).trans ((hB4.block _ hr).trans b5), brest⟩
          refine ⟨⟨_, cnt2, hrg5, ?_, hk4.drew.trans hk5 (fun _ _ h => h)⟩, by rw [hrg5.left_eq, HRG.out.left_eq]; exact hlt⟩
          have h5 := hd4.set_ (k := k) (l := l) (mixL_len H.out.ok.stay (fun k hp hk => by
            have := H.out.ok.wait _ (get_mem (k := k) (by rw [H.out.ok.same]; exact hk))
            omega)) (by rw [mixL_length]; exact hkn) hl128
          rw [mixL_step (k := k) (p := fun k => !left (.int .i64 (k : Int))) hkn (by rw [hgd]; exact hp) (by simp [Lit.sameKey]) (fun j hj => by
            have : (Lit.int .i64 (j : Int)).sameKey (.int .i64 (k : Int)) = false := by simp [Lit.sameKey]; omega
            simp [this]), hgd, ← hX, ← hY]
          exact h5
        have HFIN := Lib.hid hfin
        have HA := Lib.hid hA
        have HW4 := Lib.hid hW4
        have HXS := Lib.hid hXs
        have HYS := Lib.hid hYs
        have HX1 := Lib.hid hX1
        have HXY := Lib.hid hX
        have HR4 := Lib.hid hR4
        have HT4 := Lib.hid hT4
        rw [hxv] at hen ⊢
        generalize s.stays.length = n at *
        clear hfin hA hW4 hXs hYs hX1 hX hR4 hT4 hd4 hb4 hk4 hH4 hB4 hxv hY hr hk2 hgd hyl ey el hs2 hg2 hrg2 hat hv hkey hck hp hlk hlt hl128 ex
        go_wp2_with (with_reducible refine wpList_store_row rfl 64 (.tmp 5) (.tmp 20) rfl w2.heap.size X rfl rfl 64 Z HA.out (by rw [HXS.out]; exact sizeSec) (by rw [HXS.out, HZS.out]) HX1.out ?_; rw [HW4.out])
        refine wp_region_still_tail 7 (by kernel_rfl) (by kernel_rfl) ?_
        simp only [List.take_succ_cons, List.take_zero, List.drop_succ_cons, List.drop_zero]
        still_step
        still_step
        still_step
        still_step
        still_step
        refine wpStill_load_mid rfl 64 (.tmp 5) rfl w2.heap.size 0 rfl Y _ HR4.out Try.underlying64 rfl (by rw [HYS.out]; exact sizeSec) ?_
        rw [HXY.out]
        go_frame
        still_step
        refine wpStill_nil ?_
        change wpList _ _ _ _ _ W4.drew
        go_wp2_with (with_reducible refine wpList_store_mid rfl 64 (.tmp 27) (.tmp 26) rfl d.g (k * 128) X rfl rfl (by rw [HXS.out]; exact HT4.out) (by rw [HXS.out]; exact sizeSec) HX1.out ?_)
        refine ⟨?_, HFIN.out.2⟩
        repeat apply Exists.intro
        exact ⟨HFIN.out.1, rfl⟩
  · rw [hd] at HU
    have HFK : Hid (flushK s = s) := Lib.hid (by unfold flushK; rw [if_pos hd])
    have H := Lib.hid h
    clear h hd
    go_enter Try.func14, Try.ntmps14
    go_wp2_with (go_at_call 30; refine HU.out.mono ?_; rintro e _ ⟨rfl, rfl⟩)
    go_ret
    exact ⟨rfl, by rw [HFK.out]; exact H.out, Keep.refl _ _⟩

theorem dflush_dead (p : Option Addr) (w : World) (h : Dead w p) : Calls Try.prog 14 #[.pointer p] w fun e w' => e = .returned (.int .i64 1) ∧ w = w' := by
  have HV := Lib.hid (dusable_dead p w h)
  clear h
  go_enter Try.func14, Try.ntmps14
  go_wp2_with (go_at_call 30; refine HV.out.mono ?_; rintro e _ ⟨rfl, rfl⟩)
  go_ret
  exact ⟨rfl, rfl⟩
end

end Go.Proofs.Ytkebbjodkhjbmaa

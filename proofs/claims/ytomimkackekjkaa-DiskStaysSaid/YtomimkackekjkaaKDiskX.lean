/-
  The disk of layer 3: Write.
-/
import Derived.Test.YtomimkackekjkaaKDiskE
namespace Go.Proofs.Ytomimkackekjkaa
open Go.RowKit Go.Maps Go.MapKept Go.ChangeMaps

section
variable {w : World} {d : DAt} {kv : Value} {s : RSt}

theorem key_i64 (k : Nat) (hk : k < 4096) : keyOf Try.prog 3 (.int .i64 (k : Int)) = some (.int .i64 (k : Int)) := keyOf_int_mk Try.underlying3 (by
  have h1 : IntKind.i64.min = -9223372036854775808 := rfl
  have h2 : IntKind.i64.max = 9223372036854775807 := rfl
  simp only [Lit.wf, Bool.and_eq_true, decide_eq_true_eq]
  omega)

theorem DK.crash_range (h : DK w d kv s) : w.rangeAt d.b 5 [.int .i64 s.write, kv, .int .i64 s.torn, .int .i64 s.at_] := fun j v hv => by
  have hb := h.blk.cell (5 + j)
  rw [hb]
  rcases j with _ | _ | _ | _ | j
  · simpa using hv
  · simpa using hv
  · simpa using hv
  · simpa using hv
  · simp at hv
theorem Head.sl {t : TypeId} {xs : List Value} {A : Option Addr} {n c : Nat} (h : Head w t xs (.slice A n c)) : Sl w w.heap.size A c xs := by
  obtain ⟨A', c', e, h1, h2, h3, _⟩ := h
  injection e with e1 e2 e3
  subst e1 e3
  exact ⟨h3, h1, h2⟩
theorem infoCrash : (Try.prog.info? 36).map (·.size) = some 4 := by kernel_rfl

set_option maxRecDepth 100000 in
set_option maxHeartbeats 4000000 in
theorem dwrite_any (a : Int) (A : Option Addr) (cb : Nat) (l : List UInt8) (h : DK w d kv s) (hr : Reads w w.heap.size 1 A l.length (l.map bv)) (hmany : s.many < 9223372036854775807) :
    Calls Try.prog 14 #[.pointer (some ⟨d.b, 0, none⟩), .int .i64 a, .slice A l.length cb] w (Turned d kv (writeK s a l) (writeErr s a l) w) := by
  have HU := Lib.hid (dusable_any h)
  have HT := Lib.hid (dtakes_any a A l.length cb h)
  cases hd : s.down
  · rw [hd] at HU
    cases ht : takes3 s a l.length
    · have hs : Hid (writeK s a l = s) := Lib.hid (by unfold writeK; rw [if_neg (by rw [hd]; decide), if_neg (by rw [ht]; decide)])
      have he : writeErr s a l = 30 := by unfold writeErr; rw [if_neg (by rw [hd]; decide), if_neg (by rw [ht]; decide)]
      rw [ht] at HT
      rw [he]
      have H := Lib.hid h
      clear h hr hd ht he
      go_enter Try.func14, Try.ntmps14
      go_wp2_with (first
        | (go_at_call 35; refine HU.out.mono ?_; rintro e _ ⟨rfl, rfl⟩)
        | (go_at_call 39; refine HT.out.mono ?_; rintro e _ ⟨rfl, rfl⟩))
      go_ret
      exact ⟨_, rfl, by rw [hs.out]; exact H.out, .inl rfl, Keep.refl _ _⟩
    · have htt := ht
      unfold takes3 at htt
      simp only [Bool.and_eq_true, decide_eq_true_eq] at htt
      have hin : 0 ≤ a ∧ a < (s.stays.length : Int) := of_decide_eq_true htt.1
      obtain ⟨k, rfl⟩ := Int.eq_ofNat_of_zero_le hin.1
      have hk : k < s.stays.length := by omega
      have h128 := htt.2
      rw [ht] at HT
      have hs : Hid (writeK s (k : Int) l = if s.write = 0 then takenK s k l else if s.write = 1 then fellK { takenK s k l with write := 0 } ⟨0, s.keep, s.torn, s.at_⟩ else { takenK s k l with write := s.write - 1 }) := Lib.hid (by unfold writeK; rw [if_neg (by rw [hd]; decide), if_pos ht])
      have he : Hid (writeErr s (k : Int) l = if s.write = 1 then 31 else 0) := Lib.hid (by unfold writeErr; rw [if_neg (by rw [hd]; decide), if_pos ht])
      obtain ⟨ad, rfl, hadB, hsrc⟩ := hr.2 (by omega)
      obtain ⟨WE, hWE⟩ : ∃ WE, writeErr s (k : Int) l = WE := ⟨_, rfl⟩
      obtain ⟨WS, hWS⟩ : ∃ WS, writeK s (k : Int) l = WS := ⟨_, rfl⟩
      rw [hWE, hWS]
      rw [hWE] at he
      rw [hWS] at hs
      clear hWE hWS
      have hz := zeroSec
      obtain ⟨Z, hZ⟩ : ∃ Z, ((List.replicate 128 0).map bv).toArray = Z := ⟨_, rfl⟩
      have hzv : secV (List.replicate 128 0) = .agg Z := by rw [← hZ]; rfl
      have hZs : Z.size = 128 := by rw [← hZ]; simp
      rw [hzv] at hz
      obtain ⟨Y, hY⟩ : ∃ Y, l.map bv = Y := ⟨_, rfl⟩
      have hYl : Y.length = 128 := by rw [← hY, List.length_map]; exact h128
      have hY1 : ∀ u ∈ Y, u.oneCell' = true := by rw [← hY]; exact bv_one l
      rw [hY] at hsrc
      obtain ⟨X, hX⟩ : ∃ X, Y.toArray = X := ⟨_, rfl⟩
      have hNC : (Z.toList.take 0 ++ (Y ++ Z.toList.drop (0 + Y.length))).toArray = X := by
        rw [← hX, List.take_zero, List.nil_append, List.drop_of_length_le (by rw [Array.length_toList, hZs, hYl]; decide), List.append_nil]
      have hA := heap_alloc_new w (.cells Z 70)
      have hsrc1 : ∀ j u, Y[j]? = some u → (w.alloc (.cells Z 70)).cell? (ad.add j) = some u := fun j u hu => (World.cell?_alloc_lt w _ _ (by rw [block_of_add]; exact hadB)).trans (hsrc j u hu)
      obtain ⟨W2, hW2⟩ : ∃ W2, (w.alloc (.cells Z 70)).setRow w.heap.size X = W2 := ⟨_, rfl⟩
      have hB2 : Below w.heap.size w W2 := by rw [← hW2]; exact below_setRow ((Below.refl _ w).alloc (Nat.le_refl _) _) (Nat.le_refl _) X
      have hH2 : W2.heap[w.heap.size]? = some (.cells Y.toArray 70 (0, 0)) := by rw [hX, ← hW2]; exact setRow_heap _ _ _ _ _ _ hA
      have h2 : DK W2 d kv s := h.below hB2
      have e2 : W2.drew.cell? ⟨d.b, 2, none⟩ = some (.map (some d.m)) := h2.blk.cell 2
      have hR2 : W2.drew.rangeAt w.heap.size 0 Y := mk_setRow_range (w := W2.drew) hH2
      obtain ⟨D, hown, hC⟩ := h2.cac
      have hown2 : W2.drew.ownsMap Try.prog 3 secR d.m 4096 D := hown
      have hfew := h.ok.few
      have hkey := key_i64 k (by omega)
      have hval : secR (.agg X) = some (.lit (.string l), []) := by
        have := secR_mk h128
        rw [← hX, ← hY]
        exact this
      have hcl : k < s.cache.length := by rw [h.ok.same]; exact hk
      have HFIT : Hid (0 + Y.length ≤ Z.size) := Lib.hid (by rw [hYl, hZs]; decide)
      have HSRC := Lib.hid hsrc1
      have HYL := Lib.hid hYl
      have HY1 := Lib.hid hY1
      have HNC := Lib.hid hNC
      have HW2 := Lib.hid hW2
      have HA := Lib.hid hA
      have HR2 := Lib.hid hR2
      have HOWN := Lib.hid hown2
      have HC := Lib.hid hC
      have HKEY := Lib.hid hkey
      have HVAL := Lib.hid hval
      have HXY := Lib.hid hX
      have H2 := Lib.hid h2
      have HB2 := Lib.hid hB2
      have H128 := Lib.hid h128
      have HM0 := Lib.hid h.more.many
      rw [h128] at HT ⊢
      clear h hr hd ht htt hin hsrc hZ hzv hZs hY hYl hY1 hNC hsrc1 hW2 hA hH2 hR2 hown2 hown hC hkey hval hX hB2 h128 h2
      go_enter Try.func14, Try.ntmps14
      go_wp2_with (first
        | (go_at_call 35; refine HU.out.mono ?_; rintro e _ ⟨rfl, rfl⟩)
        | (go_at_call 39; refine HT.out.mono ?_; rintro e _ ⟨rfl, rfl⟩)
        | (with_reducible refine wpList_copy_own rfl (.tmp 19) (.tmp 20) 33 33 rfl 5 Try.underlying33 sizeU8 w.heap.size 0 128 128 ad 128 cb rfl rfl Z 70 HA.out Y (HYL.out.trans (by decide)) HSRC.out HFIT.out HY1.out ?_; rw [HNC.out, HW2.out]))
      go_frame
      refine wp_region_still_tail 6 (by kernel_rfl) (by kernel_rfl) ?_
      simp only [List.take_succ_cons, List.take_zero, List.drop_succ_cons, List.drop_zero]
      still_step
      still_step
      still_step
      still_step
      still_step
      refine wpStill_load_mid rfl 70 (.tmp 8) rfl w.heap.size 0 rfl Y _ HR2.out Try.underlying70 rfl (by rw [HYL.out]; exact sizeSec) ?_
      rw [HXY.out]
      go_frame
      refine wpStill_nil ?_
      change wpList _ _ _ _ _ W2.drew
      refine wpList_mapUpdate_own _ rfl (.tmp 25) (.tmp 26) (.tmp 27) 60 rfl 3 70 (int_keyed Try.underlying3) Try.underlying60 secR d.m 4096 D rfl HOWN.out (by unfold maxLen; omega) (.int .i64 (k : Int)) (.agg X) (.int .i64 (k : Int)) rfl rfl HKEY.out (.lit (.string l)) [] HVAL.out ?_
      intro W3 hown3 hg3
      have hk3' : Keep (fun i => i = d.m) W2.drew W3 := keep_grown hg3 (fun k e => by injection e with e; exact e.symm)
      have hk3 : Keep (fun i => i = d.m) W2 W3 := ⟨hk3'.os, hk3'.tape, hk3'.output, hk3'.size, hk3'.block⟩
      have hC3 : CacheIs _ (s.cache.set k l) := HC.out.put HOWN.out (l := l) (by rw [H128.out]; decide) hcl
      have hmap3 : MapOf W3 d.m (s.cache.set k l) := ⟨_, ownsMap_tight hown3 (by
        have := hC3.size hown3
        rw [List.length_set, H2.out.ok.same] at this
        omega), hC3⟩
      have h3 : DK W3 d kv { s with cache := s.cache.set k l } := H2.out.putC hk3 hmap3 List.length_set (mem_set_len2 H2.out.ok.wait (.inr H128.out))
      have e33 : W3.cell? ⟨d.b, 3, none⟩ = some (.int .i64 s.many) := h3.blk.cell 3
      have f33 := h3.blk.frozen 3
      have hm0 := HM0.out.1
      obtain ⟨W4, hW4⟩ : ∃ W4, W3.setCell ⟨d.b, 3, none⟩ (.int .i64 (s.many + 1)) = W4 := ⟨_, rfl⟩
      have hk4 : Keep (fun i => i = d.b) W3 W4 := by rw [← hW4]; exact (Keep.refl _ _).setCell _ _ (fun _ => rfl)
      have h4 : DK W4 d kv (takenK s (k : Int) l) := by
        refine h3.self hk4 rfl (by unfold takenK; rw [Int.toNat_natCast]) ⟨?_, h3.more.write, h3.more.torn, h3.more.at_, h3.more.keep⟩ ?_ (h3.kHead.keep hk4 (fun i e => by subst e; exact (h3.foot_typ _ (.inl rfl)).1))
        · unfold takenK
          show 0 ≤ s.many + 1 ∧ s.many + 1 ≤ 9223372036854775807
          omega
        · rw [← hW4]
          exact h3.blk.set_ 3 (.int .i64 (s.many + 1))
      have hkw4 : Keep d.foot w W4 := ((Keep.of_below HB2.out).trans hk3 (fun _ _ e => .inr (.inr e))).trans hk4 (fun _ _ e => .inl e)
      have HD4 := Lib.hid (ddue_any h4)
      have HKW4 := Lib.hid hkw4
      have hwr : (takenK s (k : Int) l).write = s.write := rfl
      rw [hwr] at HD4
      clear hk3 hk3' hC3 hmap3 h3 hk4 h4 hkw4 hown3 hg3 hwr
      by_cases hw1 : s.write = 1
      · rw [if_pos hw1] at he
        rw [if_neg (by rw [hw1]; decide), if_pos hw1] at hs
        rw [decide_eq_true hw1, hw1, if_neg (by decide)] at HD4
        have HS := Lib.hid hs
        obtain rfl : WE = 31 := he.out
        clear hw1 hs he
        obtain ⟨KA, Kc, ekv, kl1, kl2, krd, ktp⟩ := H2.out.kHead
        rw [List.length_map] at ekv
        clear kl1 kl2 krd ktp
        subst ekv
        have HI4 : Hid ((Try.prog.info? 36).map (·.size) = some ([.int .i64 0, .slice KA s.keep.length Kc, .int .i64 s.torn, .int .i64 s.at_] : List Value).length) := Lib.hid infoCrash
        go_wp2_with (first
          | (go_at_call 40; refine HD4.out.mono ?_; rintro e W5 ⟨rfl, hdk5, hkp5⟩; have HRG : Hid (W5.rangeAt d.b 5 [.int .i64 0, .slice KA s.keep.length Kc, .int .i64 s.torn, .int .i64 s.at_]) := Lib.hid hdk5.crash_range; have hfl := dfall_any ⟨0, s.keep, s.torn, s.at_⟩ KA Kc hdk5 hdk5.kHead.sl; dsimp only at hfl; have HFL := Lib.hid hfl; clear hfl; have HKP5 := Lib.hid hkp5; clear hdk5 hkp5)
          | (with_reducible refine wpList_load_mid rfl 36 (.tmp 40) rfl d.b 5 rfl [.int .i64 0, .slice KA s.keep.length Kc, .int .i64 s.torn, .int .i64 s.at_] _ HRG.out Try.underlying36 rfl HI4.out ?_)
          | (go_at_call 41; refine HFL.out.mono ?_; rintro e W6 ⟨rfl, hdk6, hkp6⟩; have HDK6 := Lib.hid hdk6; have HKP6 := Lib.hid hkp6; clear hdk6 hkp6))
        go_ret
        exact ⟨_, rfl, by rw [HS.out.out]; exact HDK6.out, .inr rfl, (HKW4.out.trans HKP5.out (fun _ _ e => .inl e)).trans HKP6.out (fun _ _ e => e)⟩
      · rw [if_neg hw1] at he
        obtain rfl : WE = 0 := he.out
        rw [decide_eq_false hw1] at HD4
        have hs2 : Hid (WS = { takenK s (k : Int) l with write := if s.write = 0 then 0 else s.write - 1 }) := Lib.hid (by
          rw [hs.out]
          by_cases h0 : s.write = 0
          · rw [if_pos h0, if_pos h0]
            unfold takenK
            rw [← h0]
          · rw [if_neg h0, if_neg hw1, if_neg h0])
        clear hs he hw1
        go_wp2_with (go_at_call 40; refine HD4.out.mono ?_; rintro e W5 ⟨rfl, hdk5, hkp5⟩; have HDK5 := Lib.hid hdk5; have HKP5 := Lib.hid hkp5; clear hdk5 hkp5)
        go_ret
        exact ⟨_, rfl, by rw [hs2.out]; exact HDK5.out, .inl rfl, HKW4.out.trans HKP5.out (fun _ _ e => .inl e)⟩
  · have hs : Hid (writeK s a l = s) := Lib.hid (by unfold writeK; rw [if_pos hd])
    have he : writeErr s a l = 31 := by unfold writeErr; rw [if_pos hd]
    rw [hd] at HU
    rw [he]
    have H := Lib.hid h
    clear h hr hd he HT
    go_enter Try.func14, Try.ntmps14
    go_wp2_with (go_at_call 35; refine HU.out.mono ?_; rintro e _ ⟨rfl, rfl⟩)
    go_ret
    exact ⟨_, rfl, by rw [hs.out]; exact H.out, .inl rfl, Keep.refl _ _⟩

theorem dwrite_dead (p : Option Addr) (a : Int) (A : Option Addr) (n c : Nat) (w : World) (h : Dead w p) : Calls Try.prog 14 #[.pointer p, .int .i64 a, .slice A n c] w fun e w' => e = .returned (.int .i64 1) ∧ w = w' := by
  have HV := Lib.hid (dusable_dead p w h)
  clear h
  go_enter Try.func14, Try.ntmps14
  go_wp2_with (go_at_call 35; refine HV.out.mono ?_; rintro e _ ⟨rfl, rfl⟩)
  go_ret
  exact ⟨rfl, rfl⟩
end

end Go.Proofs.Ytomimkackekjkaa

/-
  Layer 13 (mold): Shape.
-/
import Derived.Test.YthadnhcgoefljaaMoVec
import Derived.Test.YthadnhcgoefljaaArMake
namespace Go.Proofs.Ythadnhcgoefljaa.mo
open Go.RowKit Go.Proofs.Ythadnhcgoefljaa.arr

/-- What Shape makes. -/
def shA (a : AV) : AV := if okA a = true then ⟨1, [(a.sh.length : Int)], a.sh⟩ else noA
set_option maxRecDepth 100000 in
set_option maxHeartbeats 4000000 in
theorem moshape_any (a : AV) (p : AP) (w : World) (ha : AEl w a p) :
    Calls Try.prog 16 #[.agg (arC a p)] w (GiveE (shA a) (checkE a) w) := by
  obtain ⟨A0, c0, A1, c1⟩ := p
  have hI := OnI.start ha
  obtain ⟨w1, hw1⟩ : ∃ w1, (w.alloc (.cells (arC a ⟨A0, c0, A1, c1⟩) 25)).alloc (.cells #[.int .i64 0, .slice none 0 0, .slice none 0 0] 25) = w1 := ⟨_, rfl⟩
  rw [hw1] at hI
  have HCA := Lib.hid (fun W (h : OnI w a ⟨A0, c0, A1, c1⟩ W) => archeck_any a ⟨A0, c0, A1, c1⟩ W h.ea)
  have hca : checkE a = if okA a = true then 0 else 110 := rfl
  have hA : shA a = if okA a = true then ⟨1, [(a.sh.length : Int)], a.sh⟩ else noA := rfl
  have hLC : arC a ⟨A0, c0, A1, c1⟩ = #[.int .i64 a.kind, .slice A0 a.sh.length c0, .slice A1 a.el.length c1] := rfl
  have HI := Lib.hid hI
  have HC : Hid (∀ W, OnI w a ⟨A0, c0, A1, c1⟩ W → (W.cell? ⟨w.heap.size, 0, none⟩ = some (.int .i64 a.kind) ∧ W.cell? ⟨w.heap.size, 1, none⟩ = some (.slice A0 a.sh.length c0) ∧ W.cell? ⟨w.heap.size, 2, none⟩ = some (.slice A1 a.el.length c1)) ∧
    (W.cell? ⟨w.heap.size + 1, 0, none⟩ = some (.int .i64 0) ∧ W.cell? ⟨w.heap.size + 1, 1, none⟩ = some (.slice none 0 0) ∧ W.cell? ⟨w.heap.size + 1, 2, none⟩ = some (.slice none 0 0)) ∧
    W.frozen? ⟨w.heap.size + 1, 0, none⟩ = false ∧ W.frozen? ⟨w.heap.size + 1, 1, none⟩ = false ∧ W.frozen? ⟨w.heap.size + 1, 2, none⟩ = false) := Lib.hid (fun W h => h.cells)
  obtain ⟨⟨x0, x1, x2⟩, ⟨r0, r1, r2⟩, f0, f1, f2⟩ := HC.out w1 hI
  obtain ⟨X, hX⟩ : ∃ X, shA a = X := ⟨_, rfl⟩
  obtain ⟨E, hE⟩ : ∃ E, checkE a = E := ⟨_, rfl⟩
  rw [hX, hE]
  rw [hX] at hA
  rw [hE] at hca HCA
  rw [hLC] at HCA hw1
  rw [hLC]
  clear ha hI hLC hX hE
  cases hoa : okA a
  · rw [hoa, if_neg (by decide)] at hca hA
    subst hca
    subst hA
    go_enter Try.func16, Try.ntmps16
    go_wp2_with (go_at_call 55; (try rw [hw1]); refine (HCA.out _ HI.out).mono ?_; rintro e w2 ⟨rfl, b2⟩; have hI2 := HI.out.below b2; obtain ⟨⟨x0, x1, x2⟩, ⟨r0, r1, r2⟩, f0, f1, f2⟩ := HC.out w2 hI2; have HI2 := Lib.hid hI2; clear b2 hI2)
    refine bodyPost_ret (results_arr2 rfl rfl rfl (arblk_three _ _ _ HI2.out.r)) rfl ?_
    exact GiveE.no rfl (HI2.out.fin _ _ _)
  rw [hoa, if_pos rfl] at hca hA
  subst hca
  have hlen := (okA_len hoa).2
  obtain ⟨i0, hi, hz0, hz1, hz2⟩ := info_parts arInfoI64
  obtain ⟨q, hq⟩ : ∃ q, a.sh.length = q := ⟨_, rfl⟩
  have HQ := Lib.hid hq
  have HCELL : Hid (∀ j W, j < q → OnI w a ⟨A0, c0, A1, c1⟩ W → ∃ ad, A0 = some ad ∧ W.cell? (ad.add j) = some (.int .i64 (a.sh.getD j 0))) := Lib.hid (fun j W hj h => by
    obtain ⟨ad, e, _, hc⟩ := h.ea.r0.2 (by rw [HQ.out]; omega)
    refine ⟨ad, e, hc j _ ?_⟩
    rw [List.getElem?_map, List.getD_eq_getElem?_getD, List.getElem?_eq_getElem (by rw [HQ.out]; omega)]
    rfl)
  have HTK : Hid (∀ j, j < q → (a.sh.take (j + 1)).map iv = (a.sh.take j).map iv ++ [.int .i64 (a.sh.getD j 0)]) := Lib.hid (fun j hj => by
    have hj2 : j < a.sh.length := by rw [HQ.out]; omega
    rw [List.take_succ_eq_append_getElem hj2, List.getD_eq_getElem?_getD, List.getElem?_eq_getElem hj2, List.map_append]
    rfl)
  have HVC : Hid (∀ (A : Option Addr) (c : Nat) (W : World), Reads W W.heap.size 1 A q (a.sh.map iv) → Calls Try.prog 48 #[.slice A q c] W fun e w' => ∃ r : AP, e = .returned (.agg #[.int .i64 1, .slice r.A0 1 r.c0, .slice r.A1 q r.c1]) ∧ AOwn W.heap.size w' X r ∧ Below W.heap.size W w') := Lib.hid (fun A c W hr => by
    refine (arvector_any A q c a.sh W HQ.out hr (by omega)).mono ?_
    rintro e w' ⟨v, rfl, r, rfl, o, b⟩
    refine ⟨r, ?_, ?_, b⟩
    · unfold arC
      rw [HQ.out]
      rfl
    · rw [hA, HQ.out]
      exact o)
  have hXP : X.kind = 1 ∧ X.sh.length = 1 ∧ X.el.length = q := by
    rw [hA]
    exact ⟨rfl, rfl, hq⟩
  have HXP := Lib.hid hXP
  rw [hq] at hw1 HCA x1 HC hlen
  rw [hq]
  clear hA hq hXP
  go_enter Try.func16, Try.ntmps16
  go_wp2_with (go_at_call 55; (try rw [hw1]); refine (HCA.out _ HI.out).mono ?_; rintro e w2 ⟨rfl, b2⟩; have hI2 := HI.out.below b2; obtain ⟨⟨x0, x1, x2⟩, _⟩ := HC.out w2 hI2; have HI2 := Lib.hid hI2; clear b2 hI2)
  clear r0 r1 r2 f0 f1 f2
  go_loopw [17, 5] (fun i v wr => ∃ (j : Nat) (B1 : Option Addr) (d1 : Nat), j ≤ q ∧ i = .int .i64 (j : Int) ∧ v = .slice B1 j d1 ∧ wr.ownsRow w2.heap.size 2 1 (.slice B1 j d1) j ((a.sh.take j).map iv) ∧ Below w2.heap.size w2 wr) (fun i _ _ => q - (intOf i).toNat)
  case atStart => exact ⟨0, none, 0, Nat.zero_le _, rfl, rfl, World.ownsRow_nil _ _ _ _, Below.refl _ _⟩
  case round =>
    obtain ⟨j, B1, d1, hj, rfl, rfl, ho, hbw⟩ := hrel
    clear x0 x1 x2
    by_cases hlt : j < q
    · have hd : (j : Int) < (q : Int) := by omega
      obtain ⟨ad, rfl, cA⟩ := HCELL.out j wr hlt (HI2.out.below hbw)
      obtain ⟨z, hz⟩ : ∃ z, a.sh.getD j 0 = z := ⟨_, rfl⟩
      have HTJ := Lib.hid (HTK.out j hlt)
      rw [hz] at cA HTJ
      have HNEW : Hid (∀ W : World, ∀ k u, [Value.int .i64 z][k]? = some u → (W.alloc (.cells #[.int .i64 z] 2)).cell? ((⟨W.heap.size, 0, none⟩ : Addr).add k) = some u) := Lib.hid (fun W k u hu => by
        rw [Addr.add_mid, Nat.zero_add, (Blk.new W 2 _).cell k, List.getElem?_toArray]
        exact hu)
      have HO := Lib.hid ho
      have HBW := Lib.hid hbw
      clear ho hbw hz
      go_wp2_with (at_builtin; refine wpList_append_own _ rfl _ _ 23 rfl w2.heap.size 2 i0 (.int .i64 0) 1 8 Try.underlying23 hi hz0 hz1 hz2 rfl (by decide) _ j _ rfl (arown_stay HO.out ((Below.refl _ wr).alloc (Nat.le_refl _) _) (fun g hg => (arown_lt HO.out g hg).2)) ⟨wr.heap.size, 0, none⟩ 1 1 [.int .i64 z] rfl rfl (HNEW.out wr) (by intro u hu; rw [List.mem_singleton] at hu; subst hu; rfl) (by unfold maxLen; omega) (by omega) (by have h2 := HBW.out.size; simp; omega) ?_; intro v3 w3 hown hgrow _; have b3 : Below w2.heap.size w2 w3 := (HBW.out.alloc HBW.out.size _).grown hgrow (by have h2 := HBW.out.size; simp; omega) (fun g e => (arown_lt HO.out g e).1); have B3 := Lib.hid b3; have O3 := Lib.hid hown; clear hown hgrow b3)
      obtain ⟨A3, c3, rfl⟩ : ∃ A3 c3, v3 = .slice A3 (j + 1) c3 := by
        rcases O3.out.2 with ⟨_, h0⟩ | ⟨g, cap, cur, e, _⟩
        · omega
        · exact ⟨_, cap, e⟩
      refine ⟨⟨j + 1, A3, c3, by omega, by go_num, rfl, ?_, B3.out⟩, by simp [intOf]; omega⟩
      rw [HTJ.out]
      exact O3.out
    · obtain rfl : j = q := by omega
      have HO := Lib.hid (Reads.of_own ho)
      have hI3 := HI2.out.below hbw
      have HI3 := Lib.hid hI3
      have HJ : Hid (a.sh.take j = a.sh) := Lib.hid (by rw [← HQ.out, List.take_length])
      have HV := Lib.hid (HVC.out B1 d1 wr (by rw [← HJ.out]; exact HO.out))
      clear ho hbw hI3
      go_wp2_with (go_at_call 48; refine HV.out.mono ?_; rintro e w4 ⟨r, rfl, o4, b4⟩; have HGV := Lib.hid (HI3.out.give b4 o4); have hI4 := HI3.out.below b4; obtain ⟨_, ⟨r0, r1, r2⟩, f0, f1, f2⟩ := HC.out _ hI4; have HI4 := Lib.hid hI4; clear o4 b4 hI4)
      refine bodyPost_ret (results_arr2 rfl rfl rfl (arblk_three _ _ _ HI4.out.r)) rfl ?_
      have hg := HGV.out
      obtain ⟨k1, k2, k3⟩ := HXP.out
      rw [k1, k2, k3] at hg
      exact ⟨r, by unfold arC; rw [k1, k2, k3]; rfl, hg⟩
end Go.Proofs.Ythadnhcgoefljaa.mo

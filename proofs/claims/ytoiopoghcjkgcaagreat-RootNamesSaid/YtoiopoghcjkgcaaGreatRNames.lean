/-
  The walk of the statement RootNames.
-/
import Derived.Test.YtoiopoghcjkgcaaGreatRNamesM
import Derived.Test.YtoiopoghcjkgcaaGreatRCrash
import Derived.Maps.AppendAt
namespace Go.Proofs.YtoiopoghcjkgcaaGreat.rootNames
open Go.RowKit Go.Proofs.YtoiopoghcjkgcaaGreat.crc Go.Proofs.YtoiopoghcjkgcaaGreat.root Go.Proofs.YtoiopoghcjkgcaaGreat.rootCrash

theorem rN_ok : okR rN = true := by decide
theorem rN_fine : rN.Fine := ⟨by decide, by unfold i64ok; decide, by decide⟩
theorem SN_len : SN.length = 128 := sectR_length rN
theorem SN_head : SN.take 20 = [81, 82, 1, 0, 0, 0, 0, 0, 0, 0, 1, 2, 0, 0, 12, 0, 255, 255, 255, 255] := by decide +kernel
theorem SN_tail : SN.drop 120 = [0, 0, 0, 0, 0, 0, 1, 2] := by decide +kernel
theorem SN_counts (k : Nat) : countsR k SN = decide (0 = k) ∧ candR SN = rN := counts_sect rN_ok rN_fine k
theorem bad_err {l : List UInt8} (h : goodR l = false) : decR l = noR ∧ decErrR l = 60 := by
  unfold decR decErrR
  rw [h]
  exact ⟨rfl, rfl⟩
theorem save_bad (s : RSt) {r : RV} (h : okR r = false) : saveE s r = 60 ∧ saveS s r = s := by
  unfold saveE saveS
  rw [h]
  exact ⟨rfl, rfl⟩
def sA : RSt := cs f2 2 2
def sB : RSt := cl (slC f2 2) SN 2
def sC : RSt := cl SN SN 2
theorem sA_few : Few sA := cs_few f2 2 (by omega)
theorem spoilB : spoilErr3 sA 1 SN = 0 ∧ spoilSt3 sA 1 SN = sB := by
  have h : spoilErr3 sA 1 SN = 0 := by
    unfold spoilErr3
    rw [SN_len]
    rfl
  refine ⟨h, ?_⟩
  unfold spoilSt3
  rw [if_pos h]
  rfl
theorem spoilC : spoilErr3 sB 0 SN = 0 ∧ spoilSt3 sB 0 SN = sC := by
  have h : spoilErr3 sB 0 SN = 0 := by
    unfold spoilErr3
    rw [SN_len]
    rfl
  refine ⟨h, ?_⟩
  unfold spoilSt3
  rw [if_pos h]
  rfl
theorem sl2 : slC f2 2 = sectR ⟨2, 8, 0⟩ := rfl
theorem bE_B : bE sB = 0 := cl_bothE _ _ _
theorem bE_C : bE sC = 0 := cl_bothE _ _ _
theorem ld_B : ldR sB = ⟨2, 8, 0⟩ := by
  refine (cl_load (slC f2 2) SN 2).trans ?_
  have h2 := counts_sect (r := ⟨2, 8, 0⟩) (by decide) ⟨by decide, by unfold i64ok; decide, by decide⟩ 0
  unfold rootOf
  rw [sl2, h2.1, h2.2, (SN_counts 1).1]
  rfl
theorem ld_C : ldR sC = rN := by
  refine (cl_load SN SN 2).trans ?_
  unfold rootOf
  rw [(SN_counts 1).1, (SN_counts 0).1, (SN_counts 0).2]
  rfl
theorem both_A : bothL (fun k => readErr3 sA (k : Int)) (fun k => readOut3 sA (k : Int)) = [⟨2, 8, 0⟩, ⟨1, 7, 9⟩] ∧ bothE (fun k => readErr3 sA (k : Int)) = 0 := by
  have hE : bothE (fun k => readErr3 sA (k : Int)) = 0 := cs_bothE f2 2 2
  refine ⟨?_, hE⟩
  have hA : sA = cl (sectR ⟨2, 8, 0⟩) (sectR ⟨1, 7, 9⟩) 2 := rfl
  unfold bothL
  rw [if_pos hE, hA]
  have h2 := counts_sect (r := ⟨2, 8, 0⟩) (by decide) ⟨by decide, by unfold i64ok; decide, by decide⟩ 0
  have h1 := counts_sect (r := ⟨1, 7, 9⟩) (by decide) ⟨by decide, by unfold i64ok; decide, by decide⟩ 1
  have hc : cntL (fun k => readOut3 (cl (sectR ⟨2, 8, 0⟩) (sectR ⟨1, 7, 9⟩) 2) (k : Int)) 2 = [⟨2, 8, 0⟩, ⟨1, 7, 9⟩] := by
    unfold cntL cntL cntL
    simp only [cl_out0, cl_out1, List.nil_append]
    rw [h2.1, h2.2, h1.1, h1.2]
    rfl
  rw [hc]
  rfl
theorem one_E : bothE (fun k => readErr3 (newSt 1) (k : Int)) = 30 := rfl
theorem one_L : (bothL (fun k => readErr3 (newSt 1) (k : Int)) (fun k => readOut3 (newSt 1) (k : Int))).headD noR = noR := by
  unfold bothL
  rw [if_neg (by rw [one_E]; decide)]
  rfl
theorem nil_L : (bothL (fun _ => 1) (fun _ => [])).headD noR = noR := rfl

/-- One cell appended to a row of the call's own: the row, as it was told before, still stands. -/
theorem run_append_stays {w : World} {base g n c : Nat} {xs : List Value} (ty : TypeId) (i0 : TypeInfo) (hi : Tryz.prog.info? 5 = some i0) (hz0 : i0.zero = some (.int .u8 0)) (hz1 : i0.size = 1) (hz2 : i0.bytes = 1)
    (ho : w.ownsRow base 5 1 (.slice (some ⟨g, 0, none⟩) n c) n xs) (ad : Addr) (m : Nat) (u : Value) (hu : w.cell? ad = some u) (h1 : u.oneCell' = true) (hn : n ≤ 100000) :
    ∃ A' c' w', (Builtin.append_ #[36, 36] ty #[.slice (some ⟨g, 0, none⟩) n c, .slice (some ad) 1 m]).run Tryz.prog w = .ok (.slice A' (n + 1) c') w' ∧ Reads w' w'.heap.size 1 A' (n + 1) (xs ++ [u]) ∧
      w'.ownsRow base 5 1 (.slice (some ⟨g, 0, none⟩) n c) n xs ∧ Keep (fun i => i = g) w w' := by
  have hown := ho
  obtain ⟨hlx, h0 | ⟨g', cap, cur, e, hbg, hg, hnc, hcm, hcs, htake⟩⟩ := ho
  · cases h0.1
  · injection e with e1 e2 e3
    injection e1 with e1
    injection e1 with e1
    subst e1 e3
    have hlx1 : xs.length = n := by omega
    have hgl : g < w.heap.size := (Array.getElem?_eq_some_iff.1 hg).1
    have hnews : ∀ j u', ([u] : List Value)[j]? = some u' → w.cell? (ad.add j) = some u' := fun j u' hj => by
      rcases j with _ | j
      · have : ad.add 0 = ad := by unfold Addr.add; cases ad; simp
        rw [this]
        exact hu.trans hj
      · simp at hj
    have h1' : ∀ u' ∈ ([u] : List Value), u'.oneCell' = true := fun u' hm => by rw [List.mem_singleton.1 hm]; exact h1
    by_cases hroom : n + 1 ≤ c
    · have hfit : n * i0.size + ([u] : List Value).length ≤ cur.size := by rw [hz1, hcs]; simp; omega
      have hr := run_append_room (P := Tryz.prog) w 36 ty 5 i0 Tryz.underlying36 hi g n c cur hg ad 1 m [u] (by rw [hz1]; rfl) hnews h1' hroom hfit
      obtain ⟨v', w', hr2, h2, _, _, h5⟩ := run_append_own_at (P := Tryz.prog) w base 36 ty 5 i0 (.int .u8 0) 1 1 Tryz.underlying36 hi hz0 hz1 hz2 rfl (by decide) _ n xs hown ad 1 m [u] rfl hnews h1' (by unfold maxLen; omega) (by omega) (by omega)
      rw [hr] at hr2
      injection hr2 with hv hw
      subst hv hw
      refine ⟨_, _, _, hr, Reads.of_own h2, ⟨hlx, .inr ⟨g, c, _, rfl, hbg, setRow_heap w g cur _ 5 _ hg, by omega, hcm, ?_, ?_⟩⟩, ⟨rfl, rfl, rfl, by simp, fun k _ hk => setRow_other w g k _ (fun e => hk e)⟩⟩
      · simp only [List.size_toArray, List.length_append, List.length_take, List.length_drop, Array.length_toList, hz1]
        simp only [List.length_cons, List.length_nil]
        omega
      · have ht2 : (cur.toList.take (n * i0.size)).length = n * 1 := by rw [hz1, List.length_take, Array.length_toList, hcs]; omega
        show List.take (n * 1) (List.take (n * i0.size) cur.toList ++ [u] ++ _) = xs
        rw [List.append_assoc, List.take_left' ht2, hz1]
        exact htake
    · have holds : ∀ j u', xs[j]? = some u' → w.cell? ((⟨g, 0, none⟩ : Addr).add j) = some u' := hown.cells (g := g) rfl
      have hr := run_append_grow (P := Tryz.prog) w 36 ty 5 i0 (.int .u8 0) Tryz.underlying36 hi hz0 ⟨g, 0, none⟩ n c xs (by rw [hz1]; omega) holds ad 1 m [u] (by rw [hz1]; rfl) hnews (by omega) (by omega) (growslice_fits (by omega) (by rw [hz2]; omega))
      obtain ⟨v', w', hr2, h2, _, _, h5⟩ := run_append_own_at (P := Tryz.prog) w base 36 ty 5 i0 (.int .u8 0) 1 1 Tryz.underlying36 hi hz0 hz1 hz2 rfl (by decide) _ n xs hown ad 1 m [u] rfl hnews h1' (by unfold maxLen; omega) (by omega) (by omega)
      rw [hr] at hr2
      injection hr2 with hv hw
      subst hv hw
      have hb : ∀ o, Below w.heap.size w (w.drew.alloc o) := fun o => (Below.refl _ w).drew.alloc (Nat.le_refl _) o
      exact ⟨_, _, _, hr, Reads.of_own h2, own_stay hown (hb _), Keep.of_below (hb _)⟩

theorem wpList_append_stays {ops : Array Oper} {rest : List Oper} {o : Oper} {a : Act} {Q : Exit → Act → World → Prop} {w : World} (hgd : o.guard = none) (s x : Operand)
    (ho : o.op = .call { callee := .builtin .append, args := #[s, x], argTypes := #[36, 36] })
    {base g n c : Nat} {xs : List Value} (i0 : TypeInfo) (hi : Tryz.prog.info? 5 = some i0) (hz0 : i0.zero = some (.int .u8 0)) (hz1 : i0.size = 1) (hz2 : i0.bytes = 1)
    (hs : a.eval s = .slice (some ⟨g, 0, none⟩) n c) (hown : w.ownsRow base 5 1 (.slice (some ⟨g, 0, none⟩) n c) n xs) (ad : Addr) (m : Nat) (u : Value) (hx : a.eval x = .slice (some ad) 1 m) (hu : w.cell? ad = some u) (h1 : u.oneCell' = true) (hn : n ≤ 100000)
    (h : ∀ A' c' w', Reads w' w'.heap.size 1 A' (n + 1) (xs ++ [u]) → w'.ownsRow base 5 1 (.slice (some ⟨g, 0, none⟩) n c) n xs → Keep (fun i => i = g) w w' → wpList Tryz.prog ops Q rest (a.put o.dst (.slice A' (n + 1) c')) w') : wpList Tryz.prog ops Q (o :: rest) a w :=
  wpList_plain hgd fun _ hK => by
    obtain ⟨A', c', w', hrun, h2, h3, h4⟩ := run_append_stays o.type i0 hi hz0 hz1 hz2 hown ad m u hu h1 hn
    unfold Oper.wp execOp
    simp only [ho, resolve, invoke, builtin, Sem.run_bind, Sem.run_pure, Result.andThen_ok, List.map_toArray, List.map_cons, List.map_nil, hs, hx, hrun]
    exact hK _ _ (h A' c' w' h2 h3 h4)
set_option maxRecDepth 100000 in
theorem SN0_bad : goodR (SN ++ [0]) = false := by decide +kernel
theorem SN0_len : (SN ++ [0]).length = 129 := by rw [List.length_append, SN_len]; rfl

/-- The disk, and what Both answered. -/
structure N1 (w W : World) (d : DAt) (s : RSt) (gl : Nat) : Prop where
  L : Lives w.heap.size w W d s
  l : ∃ cur, Blk W gl 35 cur ∧ cur[0]? = some (.int .u64 2) ∧ cur[3]? = some (.int .u64 1) ∧ cur[4]? = some (.int .i64 7) ∧ cur[5]? = some (.int .u32 9)
  far : ¬ d.foot gl
theorem N1.call {w W W' : World} {d : DAt} {s s' : RSt} {gl : Nat} (h : N1 w W d s gl) (L : Lives w.heap.size w W' d s') (hk : Keep d.foot W W') : N1 w W' d s' gl := by
  obtain ⟨cur, hb, hc⟩ := h.l
  exact ⟨L, ⟨cur, hk.blk hb h.far, hc⟩, h.far⟩
theorem N1.next {w W W' : World} {d : DAt} {s : RSt} {gl : Nat} (h : N1 w W d s gl) (hb : Below W.heap.size W W') : N1 w W' d s gl := by
  obtain ⟨cur, hx, hc⟩ := h.l
  exact ⟨h.L.next h.L.lt hb, ⟨cur, hx.below hb hx.lt, hc⟩, h.far⟩
/-- And the sector. -/
structure N2 (w W : World) (d : DAt) (s : RSt) (gl gb cb : Nat) : Prop where
  n : N1 w W d s gl
  b : W.ownsRow w.heap.size 5 1 (.slice (some ⟨gb, 0, none⟩) 128 cb) 128 (SN.map bv)
  far : ¬ d.foot gb
theorem N2.call {w W W' : World} {d : DAt} {s s' : RSt} {gl gb cb : Nat} (h : N2 w W d s gl gb cb) (L : Lives w.heap.size w W' d s') (hk : Keep d.foot W W') : N2 w W' d s' gl gb cb :=
  ⟨h.n.call L hk, hk.own h.b (fun k e => by injection e with e; subst e; exact h.far), h.far⟩
theorem N2.next {w W W' : World} {d : DAt} {s : RSt} {gl gb cb : Nat} (h : N2 w W d s gl gb cb) (hb : Below W.heap.size W W') : N2 w W' d s gl gb cb := ⟨h.n.next hb, own_stay h.b hb, h.far⟩
theorem N2.grow {w W W' : World} {d : DAt} {s : RSt} {gl gb cb : Nat} (h : N2 w W d s gl gb cb) (hk : Keep (fun i => i = gb) W W') (ho : W'.ownsRow w.heap.size 5 1 (.slice (some ⟨gb, 0, none⟩) 128 cb) 128 (SN.map bv)) : N2 w W' d s gl gb cb := by
  obtain ⟨kv, hd⟩ := h.n.L.dk
  obtain ⟨cur, hx, hc⟩ := h.n.l
  obtain ⟨hge, _, cb', hcb⟩ := own_is h.b gb rfl
  have hne : gl ≠ gb := hx.ne_ hcb (by decide)
  refine ⟨⟨⟨h.n.L.below.trans (hk.below h.n.L.lt (fun i hi e => by omega)), h.n.L.foot, kv, ?_⟩, ⟨cur, hk.blk hx hne, hc⟩, h.n.far⟩, ho, h.far⟩
  exact hd.keep hk (fun k hf e => h.far (e ▸ hf)) (fun k e => by subst e; exact fun ht => absurd (hcb.typ.ne ht) (by decide))
theorem own_fresh (w : World) (base : Nat) (h : base ≤ w.heap.size) : (w.alloc (.cells #[] 5)).ownsRow base 5 1 (.slice (some ⟨w.heap.size, 0, none⟩) 0 0) 0 [] :=
  World.ownsRow_made w #[] 0 h (Nat.zero_le _) rfl
theorem u8_xor_one (x : UInt8) : bits .xor .u8 (x.toNat : Int) 1 = (((x ^^^ 1).toNat : Nat) : Int) := by
  have h := u8_xor_nat x.toNat 1 x.toNat_lt (by omega)
  rw [UInt8.toNat_xor]
  exact h

set_option maxRecDepth 100000 in
set_option maxHeartbeats 8000000 in
theorem walk (w : World) : Calls Tryz.prog 4 #[] w fun e w' => e = .returned (.bool true) ∧ Below w.heap.size w w' := by
  obtain ⟨i0, hi, hz0, hz1, hz2⟩ := info_parts infoU8
  have HN := Lib.hid (lnew (N := w.heap.size) (w0 := w) (w := w) 2 (Nat.le_refl _) (Below.refl _ _) (by omega) (by omega) (cs_zero f2))
  have RI := Lib.hid f2_rise
  have V1 : Hid (rtv (⟨1, 7, 9⟩ : RV) = .agg #[.int .u64 1, .int .i64 7, .int .u32 9]) := Lib.hid rfl
  have V2 : Hid (rtv (⟨2, 8, 0⟩ : RV) = .agg #[.int .u64 2, .int .i64 8, .int .u32 0]) := Lib.hid rfl
  have V0 : Hid (rtv noR = .agg #[.int .u64 0, .int .i64 0, .int .u32 0]) := Lib.hid rfl
  have V3 : Hid (rtv (⟨3, 3073, 0⟩ : RV) = .agg #[.int .u64 3, .int .i64 3073, .int .u32 0]) := Lib.hid rfl
  have V4 : Hid (rtv (⟨3, -1, 0⟩ : RV) = .agg #[.int .u64 3, .int .i64 (-1), .int .u32 0]) := Lib.hid rfl
  have VN : Hid (rtv rN = .agg #[.int .u64 258, .int .i64 3072, .int .u32 4294967295]) := Lib.hid rfl
  have F3 : Hid ((⟨3, 3073, 0⟩ : RV).Fine) := Lib.hid ⟨by decide, by unfold i64ok; decide, by decide⟩
  have F4 : Hid ((⟨3, -1, 0⟩ : RV).Fine) := Lib.hid ⟨by decide, by unfold i64ok; decide, by decide⟩
  have S1 : Hid (saveE (cs f2 0 0) ⟨1, 7, 9⟩ = 0 ∧ saveS (cs f2 0 0) ⟨1, 7, 9⟩ = cs f2 1 1) := Lib.hid (cs_save (f := f2) (i := 0) 0 (f2_rise.less (by omega)))
  have S2 : Hid (saveE (cs f2 1 1) ⟨2, 8, 0⟩ = 0 ∧ saveS (cs f2 1 1) ⟨2, 8, 0⟩ = sA) := Lib.hid (cs_save (f := f2) (i := 1) 1 f2_rise)
  have F1 : Hid ((⟨1, 7, 9⟩ : RV).Fine) := Lib.hid (f2_rise.fine 1 (by omega) (by omega))
  have F2 : Hid ((⟨2, 8, 0⟩ : RV).Fine) := Lib.hid (f2_rise.fine 2 (by omega) (by omega))
  have W0 := Lib.hid (cs_few f2 0 (m := 0) (by omega))
  have W1' := Lib.hid (cs_few f2 1 (m := 1) (by omega))
  have B0 := Lib.hid (save_bad sA (r := noR) (by decide))
  have B3 := Lib.hid (save_bad sA (r := ⟨3, 3073, 0⟩) (by decide))
  have B4 := Lib.hid (save_bad sA (r := ⟨3, -1, 0⟩) (by decide))
  have HBO : Hid (∀ (W : World) (d : DAt), Lives w.heap.size w W d sA → Calls Tryz.prog 13 #[.pointer (some ⟨d.b, 0, none⟩)] W fun e w' => ∃ A c, e = .returned (.tuple #[.slice A 2 c, .int .i64 0]) ∧ w'.ownsRow W.heap.size 35 3 (.slice A 2 c) 2 (rowsR [⟨2, 8, 0⟩, ⟨1, 7, 9⟩]) ∧ Below W.heap.size W w') := Lib.hid (fun W d L => by
    obtain ⟨kv, h⟩ := L.dk
    have hb := rboth_any _ _ _ W (slots_dk h W (Below.refl _ _))
    rw [both_A.1, both_A.2] at hb
    exact hb)
  obtain ⟨CZ, hCZ⟩ := zeros_made (m := 128) (by omega) 128 rfl
  have hmk := fun W => (hCZ W).1
  have HZ := Lib.hid (fun W => (hCZ W).2)
  have HDZ : Hid (∀ (A : Option Addr) (c : Nat) (W : World), Reads W W.heap.size 1 A 128 (zsec.map bv) → Calls Tryz.prog 14 #[.slice A 128 c] W fun e w' => e = .returned (.tuple #[rtv noR, .int .i64 60]) ∧ Below W.heap.size W w') := Lib.hid (fun A c W h => by
    have hd := rdecode_any A c 128 zsec W zsec_length h
    rw [(bad_err zsec_bad).1, (bad_err zsec_bad).2] at hd
    exact hd)
  have HEN : Hid (∀ W, Calls Tryz.prog 15 #[.agg #[.int .u64 258, .int .i64 3072, .int .u32 4294967295]] W fun e w' => ∃ v, e = .returned (.tuple #[v, .int .i64 0]) ∧ Gives W w' v SN) := Lib.hid (fun W => by
    have h := rencode_any rN W rN_fine
    have he : errR rN = 0 ∧ outR rN = SN := by unfold errR outR; rw [rN_ok]; exact ⟨rfl, rfl⟩
    rw [he.1, he.2] at h
    exact h)
  have SL := Lib.hid SN_len
  unfold rtv at HDZ
  clear hCZ
  go_enter Tryz.func4, Tryz.ntmps4
  go_wp2_with (first
    | (go_at_call 15; (have l0 := M9.out; clear l0); (with_reducible refine (HEN.out _).mono ?_); rintro e Wb ⟨v, rfl, g⟩; obtain ⟨Ab, cb, rfl, ob, bb⟩ := gives_len g SL.out
       have hcb := own_cap ob
       obtain ⟨gb, rfl⟩ : ∃ gb, Ab = some ⟨gb, 0, none⟩ := by
         rcases ob.2 with ⟨_, h0⟩ | ⟨g, cap, cur, e, hb, hh, hn, hcm, hsz, ht⟩
         · omega
         · injection e with e
           exact ⟨g, e⟩
       have KM : Hid (w.heap.size ≤ Wb.heap.size) := Lib.hid (M9.out.next bb).L.lt
       have hgb := own_is ob gb rfl
       have hdl : ∀ k, d.foot k → k ≠ gb := fun k hf e => by
         obtain ⟨kv, hdk⟩ := M9.out.L.dk
         have := hdk.lt _ hf
         omega
       have Mb : Hid (N2 w Wb d sA gl gb cb) := Lib.hid ⟨M9.out.next bb, own_mono ob M9.out.L.lt, fun hf => hdl gb hf rfl⟩
       have hr0 : Reads Wb Wb.heap.size 1 (some ⟨gb, 0, none⟩) 128 (SN.map bv) := Reads.of_own ob
       have hr1 : Reads Wb Wb.heap.size 1 (some ⟨gb, 0, none⟩) 20 ((SN.take 20).map bv) := hr0.front (by omega)
       have cv1 : (convert 36 9 (.slice (some ⟨gb, 0, none⟩) 20 cb)).run Tryz.prog Wb = .ok (.string { data := #[81, 82, 1, 0, 0, 0, 0, 0, 0, 0, 1, 2, 0, 0, 12, 0, 255, 255, 255, 255] }) Wb := by
         have h := conv_reads cb hr1
         rw [SN_head] at h
         exact h
       have hr2 : Reads Wb Wb.heap.size 1 (some ⟨gb, 120, none⟩) 8 ((SN.drop 120).map bv) := by
         have h := hr0.cut (k := 120) (cap := 128) (by omega) (by omega)
         rw [if_neg (by omega), Nat.mul_one, ← List.map_drop] at h
         exact h
       have cv2 : (convert 36 9 (.slice (some ⟨gb, 120, none⟩) 8 (cb - 120))).run Tryz.prog Wb = .ok (.string { data := #[0, 0, 0, 0, 0, 0, 1, 2] }) Wb := by
         have h := conv_reads (cb - 120) hr2
         rw [SN_tail] at h
         exact h
       have c20 : (20 : Int) ≤ (cb : Int) := by omega
       have c128 : (128 : Int) ≤ (cb : Int) := by omega
       have cmx : (cb : Int) ≤ 9223372036854775807 := by omega
       have cne : ¬ (cb : Int) = 120 := by omega
       have cnn : ¬ cb = 120 := by omega
       have ad : (some (⟨gb, 0, none⟩ : Addr)).map (fun x => x.add 120) = some ⟨gb, 120, none⟩ := rfl
       clear g ob bb hgb hdl hr0 hr1 hr2 hcb)
    | (go_at_call 14; (have l0 := M7.out; clear l0); (with_reducible refine (HDZ.out _ _ _ (Reads.of_own (HZ.out W7))).mono ?_); rintro e W8 ⟨rfl, b8⟩; have M9 := Lib.hid (M7.out.next ((((Below.refl _ _).alloc (Nat.le_refl _) _).trans (b8.mono (by simp))).alloc (((((Below.refl _ W7).alloc (Nat.le_refl _) _).trans (b8.mono (by simp)))).size) (.cells #[.int .u64 noR.n, .int .i64 noR.len, .int .u32 noR.sm] 35))); clear b8)
    | (go_at_call 12; (have l0 := M6.out; clear l0); (with_reducible refine (lsk M6.out.L F4.out sA_few B4.out.1 B4.out.2 V4.out).mono ?_); rintro e W7 ⟨rfl, l7, k7⟩; have M7 := Lib.hid (M6.out.call l7 k7); clear l7 k7)
    | (go_at_call 12; (have l0 := M5.out; clear l0); (with_reducible refine (lsk M5.out.L F3.out sA_few B3.out.1 B3.out.2 V3.out).mono ?_); rintro e W6 ⟨rfl, l6, k6⟩; have M6 := Lib.hid (M5.out.call l6 k6); clear l6 k6)
    | (go_at_call 12; (have l0 := M4.out; clear l0); (with_reducible refine (lsk M4.out.L noR_fine sA_few B0.out.1 B0.out.2 V0.out).mono ?_); rintro e W5 ⟨rfl, l5, k5⟩; have M5 := Lib.hid (M4.out.call l5 k5); clear l5 k5)
    | (go_at_call 13; (have l0 := L3.out; clear l0); (with_reducible refine (HBO.out W3 d L3.out).mono ?_); rintro e W4 ⟨A4, c4, rfl, o4, b4⟩
       obtain ⟨gl, rfl, hm4⟩ : ∃ gl, A4 = some ⟨gl, 0, none⟩ ∧ N1 w W4 d sA gl := by
         rcases o4.2 with ⟨_, h0⟩ | ⟨g, cap, cur, e, hb, hh, hn, hcm, hsz, ht⟩
         · omega
         · injection e with e
           have hc : ∀ j v, (rowsR [⟨2, 8, 0⟩, ⟨1, 7, 9⟩])[j]? = some v → cur[j]? = some v := fun j v hv => by
             have hj : j < 6 := (List.getElem?_eq_some_iff.1 hv).1
             rw [← Array.getElem?_toList, ← List.getElem?_take_of_lt (show j < 2 * 3 by omega), ht]
             exact hv
           obtain ⟨kv, hdk⟩ := L3.out.dk
           exact ⟨g, e, L3.out.next L3.out.lt b4, ⟨cur, hh, hc 0 _ rfl, hc 3 _ rfl, hc 4 _ rfl, hc 5 _ rfl⟩, fun hf => by have := hdk.lt _ hf; omega⟩
       have M4 := Lib.hid hm4; clear o4 b4 hm4)
    | (go_at_call 12; (have l0 := L2.out; clear l0); (with_reducible refine (lsk L2.out F2.out W1'.out S2.out.1 S2.out.2 V2.out).mono ?_); rintro e W3 ⟨rfl, l3, _⟩; have L3 : Hid (Lives w.heap.size w W3 d sA) := Lib.hid l3; clear l3)
    | (go_at_call 12; (have l0 := L1.out; clear l0); (with_reducible refine (lsk L1.out F1.out W0.out S1.out.1 S1.out.2 V1.out).mono ?_); rintro e W2 ⟨rfl, l2, _⟩; have L2 := Lib.hid l2; clear l2)
    | (go_at_call 7; refine HN.out.mono ?_; rintro e W1 ⟨d, rfl, l1, _⟩; have L1 := Lib.hid l1; clear l1))
  clear cv1 cv2 c20 c128 cmx cne cnn ad
  go_loopw [12, 76] (fun b i wr => ∃ k : Nat, k ≤ 128 ∧ i = .int .i64 (k : Int) ∧ b = .bool true ∧ N2 w wr d sA gl gb cb) (fun _ i _ => 128 - (intOf i).toNat)
  case atStart => exact ⟨0, by omega, rfl, rfl, Mb.out⟩
  case round =>
    obtain ⟨k, hk, rfl, rfl, hN⟩ := hrel
    have HN2 := Lib.hid hN
    clear hN
    by_cases hlt : k < 128
    · obtain ⟨y, hy⟩ : ∃ y, SN[k]? = some y := ⟨_, List.getElem?_eq_getElem (by rw [SN_len]; exact hlt)⟩
      have hX : SN.set k (y ^^^ 1) = SX k := by unfold SX; rw [List.getD_eq_getElem?_getD, hy]; rfl
      have HD : Hid (∀ (A : Option Addr) (c : Nat) (W : World), Reads W W.heap.size 1 A 128 ((SN.set k (y ^^^ 1)).map bv) → Calls Tryz.prog 14 #[.slice A 128 c] W fun e w' => e = .returned (.tuple #[.agg #[.int .u64 0, .int .i64 0, .int .u32 0], .int .i64 60]) ∧ Below W.heap.size W w') := Lib.hid (fun A c W h => by
        have hd := rdecode_any A c 128 _ W (by rw [List.length_set]; exact SN_len) h
        rw [hX, (bad_err (sx_bad ⟨k, hlt⟩)).1, (bad_err (sx_bad ⟨k, hlt⟩)).2, V0.out] at hd
        exact hd)
      have hx1 := u8_xor_one y
      obtain ⟨ly, hly⟩ : ∃ ly, y.toNat = ly := ⟨_, rfl⟩
      obtain ⟨lz, hlz⟩ : ∃ lz, (y ^^^ 1).toNat = lz := ⟨_, rfl⟩
      have hbz : bv (y ^^^ 1) = .int .u8 (lz : Int) := by rw [← hlz]; rfl
      have hby : bv y = .int .u8 (ly : Int) := by rw [← hly]; rfl
      rw [hly, hlz] at hx1
      have HBZ := Lib.hid hbz
      have HBY := Lib.hid hby
      have HY := Lib.hid hy
      have HLT := Lib.hid hlt
      clear hX hly hlz hbz hby hy hk HDZ HEN HBO
      go_wp2_with (first
        | (at_builtin; refine wpList_append_any _ rfl _ _ 36 rfl wr.heap.size 5 i0 (.int .u8 0) 1 1 Tryz.underlying36 hi hz0 hz1 hz2 rfl (by decide) _ 0 [] rfl (own_fresh _ _ (Nat.le_refl _)) _ (some ⟨gb, 0, none⟩) 128 cb (SN.map bv) rfl ((Reads.of_own HN2.out.b).alloc (Nat.le_refl _) _) (bv_one _) (by unfold maxLen; omega) (by omega) (by simp) ?_
           intro v2 w2 o2 g2 _
           rw [Nat.zero_add, List.nil_append] at o2
           have b2 : Below wr.heap.size wr w2 := ((Below.refl _ _).alloc (Nat.le_refl _) _).grown g2 (by simp) (fun j e => ((own_fresh wr _ (Nat.le_refl _)).lt j e).1)
           obtain ⟨gx, cx, rfl, hgx⟩ : ∃ g c, v2 = .slice (some ⟨g, 0, none⟩) 128 c ∧ wr.heap.size ≤ g := by
             rcases o2.2 with ⟨_, h0⟩ | ⟨g, cap, cur, e, hb, _⟩
             · omega
             · exact ⟨g, cap, e, hb⟩
           have hc := own_at o2 (j := k) (v := bv y) (by rw [List.getElem?_map, HY.out]; rfl)
           have o3 := own_put o2 (j := k) (bv (y ^^^ 1))
           rw [← List.map_set, HBZ.out] at o3
           rw [HBY.out] at hc
           obtain ⟨c0, f0⟩ := hc
           have b3 := b2.setCell (p := ⟨gx, k, none⟩) hgx (.int .u8 (lz : Int))
           have O3 := Lib.hid o3
           have B3 := Lib.hid b3
           have hlk := HLT.out
           clear g2 o2 b2 o3 b3 hgx)
        | (go_at_call 14; (have l0 := O3.out; clear l0); (with_reducible refine (HD.out _ _ _ (Reads.of_own O3.out)).mono ?_); rintro e w4 ⟨rfl, b4⟩; have M4 := Lib.hid (HN2.out.next ((B3.out.trans (b4.mono B3.out.size)).alloc ((B3.out.trans (b4.mono B3.out.size)).size) (.cells #[.int .u64 0, .int .i64 0, .int .u32 0] 35))); clear b4))
      exact ⟨⟨k + 1, by have := HLT.out; omega, by go_num, rfl, M4.out⟩, by have := HLT.out; simp [intOf]; omega⟩
    · obtain rfl : k = 128 := by omega
      have HD9 : Hid (∀ (A : Option Addr) (c : Nat) (W : World), Reads W W.heap.size 1 A 129 ((SN ++ [0]).map bv) → Calls Tryz.prog 14 #[.slice A 129 c] W fun e w' => e = .returned (.tuple #[.agg #[.int .u64 0, .int .i64 0, .int .u32 0], .int .i64 60]) ∧ Below W.heap.size W w') := Lib.hid (fun A c W h => by
        have hd := rdecode_any A c 129 _ W SN0_len h
        rw [(bad_err SN0_bad).1, (bad_err SN0_bad).2, V0.out] at hd
        exact hd)
      have HNN := Lib.hid (fun (W : World) => lnew (N := W.heap.size) (w0 := W) (w := W) 1 (Nat.le_refl _) (Below.refl _ _) (by omega) (by omega) (rfl : newSt 1 = newSt 1))
      have HL1 : Hid (∀ (W0 W : World) (d1 : DAt), Lives W0.heap.size W0 W d1 (newSt 1) → Calls Tryz.prog 16 #[.pointer (some ⟨d1.b, 0, none⟩)] W fun e w' => e = .returned (.tuple #[.agg #[.int .u64 0, .int .i64 0, .int .u32 0], .int .i64 30]) ∧ Below W.heap.size W w') := Lib.hid (fun W0 W d1 L => by
        obtain ⟨kv, h⟩ := L.dk
        have hl := rload_any (slots_dk h) one_E one_L
        rw [V0.out] at hl
        exact hl)
      have HL0 : Hid (∀ W : World, Calls Tryz.prog 16 #[.pointer none] W fun e w' => e = .returned (.tuple #[.agg #[.int .u64 0, .int .i64 0, .int .u32 0], .int .i64 1]) ∧ Below W.heap.size W w') := Lib.hid (fun W => by
        have hl := rload_any (slots_nil W) (E := 1) rfl nil_L
        rw [V0.out] at hl
        exact hl)
      clear HDZ HEN HBO hk hlt
      go_wp2_with (first
        | (at_builtin; refine wpList_append_stays rfl _ _ rfl i0 hi hz0 hz1 hz2 rfl (HN2.out.next ((Below.refl _ wr).alloc (Nat.le_refl _) _)).b ⟨wr.heap.size, 0, none⟩ 1 (.int .u8 0) rfl ((Blk.new wr _ _).cell 0) rfl (by omega) ?_
           intro A2 c2 w2 r2 o2 k2
           have P2 := Lib.hid ((HN2.out.next ((Below.refl _ wr).alloc (Nat.le_refl _) (.cells #[.int .u8 0] 5))).grow k2 o2)
           have R2 : Hid (Reads w2 w2.heap.size 1 A2 129 ((SN ++ [0]).map bv)) := Lib.hid (by rw [List.map_append]; exact r2)
           clear r2 o2 k2 HN2)
        | (go_at_call 14; (have l0 := P2.out; clear l0); (with_reducible refine (HD9.out _ _ _ R2.out).mono ?_); rintro e w3 ⟨rfl, b3⟩; have P3 := Lib.hid (P2.out.next (b3.alloc b3.size (.cells #[.int .u64 0, .int .i64 0, .int .u32 0] 35))); clear b3 R2 P2)
        | (go_at_call 7; (have l0 := P3.out; clear l0); refine (HNN.out _).mono ?_; rintro e w4 ⟨d1, rfl, l4, b4, _⟩; have P4 := Lib.hid (P3.out.next b4); have L4 := Lib.hid l4; clear l4 b4 P3)
        | (go_at_call 16; (have l0 := L4.out; clear l0); (with_reducible refine (HL1.out _ _ _ L4.out).mono ?_); rintro e w5 ⟨rfl, b5⟩; have P5 := Lib.hid (P4.out.next (b5.alloc b5.size (.cells #[.int .u64 0, .int .i64 0, .int .u32 0] 35))); clear b5 P4 L4)
        | (go_at_call 16; (have l0 := P5.out; clear l0); (with_reducible refine (HL0.out _).mono ?_); rintro e w6 ⟨rfl, b6⟩; have P6 := Lib.hid (P5.out.next (b6.alloc b6.size (.cells #[.int .u64 0, .int .i64 0, .int .u32 0] 35))); clear b6 P5)
        | (go_at_call 17; (have l0 := P6.out; clear l0); (with_reducible refine (lspoil 1 _ _ cb SN P6.out.n.L SN_len (Reads.of_own P6.out.b) spoilB.1 spoilB.2).mono ?_); rintro e w7 ⟨rfl, l7, k7⟩; have P7 := Lib.hid (P6.out.call l7 k7); clear l7 k7 P6)
        | (go_at_call 18; (have l0 := P7.out; clear l0); (with_reducible refine (lik P7.out.n.L bE_B ld_B V2.out).mono ?_); rintro e w8 ⟨rfl, l8, k8⟩; have P8 := Lib.hid (P7.out.call l8 k8); clear l8 k8 P7)
        | (go_at_call 17; (have l0 := P8.out; clear l0); (with_reducible refine (lspoil 0 _ _ cb SN P8.out.n.L SN_len (Reads.of_own P8.out.b) spoilC.1 spoilC.2).mono ?_); rintro e w9 ⟨rfl, l9, k9⟩; have P9 := Lib.hid (P8.out.call l9 k9); clear l9 k9 P8)
        | (go_at_call 18; (have l0 := P9.out; clear l0); (with_reducible refine (lik P9.out.n.L bE_C ld_C VN.out).mono ?_); rintro e wa ⟨rfl, la, ka⟩; have PA := Lib.hid (P9.out.call la ka); clear la ka P9)
        | (go_at_call 19; (have l0 := PA.out; clear l0); (with_reducible refine (ralive_any _).mono ?_); rintro e wz ⟨rfl, bz⟩; have PZ := Lib.hid (PA.out.next bz)
           obtain ⟨cur, hbl, hc0, hc3, hc4, hc5⟩ := PZ.out.n.l
           have z0 := (hbl.cell 0).trans hc0
           have z3 := (hbl.cell 3).trans hc3
           have z4 := (hbl.cell 4).trans hc4
           have z5 := (hbl.cell 5).trans hc5
           clear bz PA hc0 hc3 hc4 hc5 hbl))
      go_ret
      exact ⟨rfl, PZ.out.n.L.below⟩
end Go.Proofs.YtoiopoghcjkgcaaGreat.rootNames

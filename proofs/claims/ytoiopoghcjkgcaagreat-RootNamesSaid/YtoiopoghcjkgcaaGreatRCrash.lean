/-
  The walk of the statement RootCrash: of a disk on which roots were saved by numbers that rise by one each, behind any crash in the last Save, its root is the last one, if all of its sector stayed, else the one ahead of it, whole; and it goes on from there.
-/
import Derived.Test.YtoiopoghcjkgcaaGreatRtTorn
import Derived.StillTailTactics
namespace Go.Proofs.YtoiopoghcjkgcaaGreat.rootCrash
open Go.RowKit Go.Proofs.YtoiopoghcjkgcaaGreat.crc Go.Proofs.YtoiopoghcjkgcaaGreat.root

def uv (x : Nat) : Value := .int .u32 (x : Int)
/-- The roots that the statement saves. -/
def fC (l : List Nat) (j : Nat) : RV := if j ≤ l.length then ⟨j, ((l.getD (j - 1) 0 % 3073 : Nat) : Int), l.getD (j - 1) 0⟩ else ⟨j, 5, 77⟩
theorem fC_rise (l : List Nat) (hl : ∀ x ∈ l, x < 4294967296) (h : l.length ≤ 20) : Rise (fC l) (l.length + 1) := by
  have hg : ∀ j, l.getD j 0 < 4294967296 := fun j => by
    rw [List.getD_eq_getElem?_getD]
    cases hj : l[j]? with
    | none => simp
    | some x => exact hl x (List.mem_of_getElem? hj)
  refine ⟨fun j h1 h2 => ?_, fun j h1 h2 => ?_, fun j h1 h2 => ?_⟩
  · unfold fC; split <;> rfl
  · unfold fC
    split
    · rw [okR_iff]
      simp only
      omega
    · rw [okR_iff]
      simp only
      omega
  · unfold fC
    split
    · have := hg (j - 1)
      exact ⟨by simp only; omega, by unfold i64ok; simp only; omega, this⟩
    · exact ⟨by simp only; omega, by unfold i64ok; simp only; omega, by simp only; omega⟩
/-- With the last one laid. -/
def fL (l : List Nat) (K j : Nat) : RV := if j = K then ⟨K, 9, 0⟩ else fC l j
theorem fL_rise (l : List Nat) (K : Nat) (hK : 1 ≤ K) (hb : K ≤ 1000) (hr : Rise (fC l) (K - 1)) : Rise (fL l K) K := by
  have ho : ∀ j, j ≤ K → j ≠ K → j ≤ K - 1 := fun j h1 h2 => by omega
  refine ⟨fun j h1 h2 => ?_, fun j h1 h2 => ?_, fun j h1 h2 => ?_⟩
  · unfold fL
    split
    · rename_i h; exact h.symm
    · rename_i h; exact hr.no j h1 (ho j h2 h)
  · unfold fL
    split
    · rw [okR_iff]; simp only; omega
    · rename_i h; exact hr.ok j h1 (ho j h2 h)
  · unfold fL
    split
    · exact ⟨by simp only; omega, by unfold i64ok; simp only; omega, by simp only; omega⟩
    · rename_i h; exact hr.fine j h1 (ho j h2 h)
theorem slC_fL (l : List Nat) {K i : Nat} (h : i < K) : slC (fL l K) i = slC (fC l) i := by
  unfold slC fL
  split
  · rfl
  · rw [if_neg (by omega)]
theorem cs_fL (l : List Nat) {K i : Nat} (m : Int) (h : i < K) : cs (fL l K) i m = cs (fC l) i m := by
  unfold cs
  rw [slC_fL l h, slC_fL l (show i - 1 < K by omega)]
theorem csM_fL (l : List Nat) {K i : Nat} (M : List UInt8) (m : Int) (h : i < K) : csM (fL l K) i M m = csM (fC l) i M m := by
  unfold csM
  rw [slC_fL l h]

def bE (s : RSt) : Int := bothE (fun k => readErr3 s (k : Int))
def ldR (s : RSt) : RV := (bothL (fun k => readErr3 s (k : Int)) (fun k => readOut3 s (k : Int))).headD noR
theorem lik {N : Nat} {w0 w : World} {d : DAt} {s : RSt} {r : RV} {v : Value} (L : Lives N w0 w d s) (hE : bE s = 0) (hr : ldR s = r) (hv : rtv r = v) :
    Calls Tryz.prog 18 #[.pointer (some ⟨d.b, 0, none⟩), v] w fun e w' => e = .returned (.bool true) ∧ Lives N w0 w' d s ∧ Keep d.foot w w' := by
  subst hv
  obtain ⟨kv, h⟩ := L.dk
  refine (ris_any (slots_dk h) hE hr).mono ?_
  rintro e w' ⟨rfl, hb⟩
  exact ⟨rfl, L.next L.lt hb, Keep.of_below hb⟩
theorem lsk {N : Nat} {w0 w : World} {d : DAt} {s s' : RSt} {er : Int} {r : RV} {v : Value} (L : Lives N w0 w d s) (hf : r.Fine) (hm : Few s) (he : saveE s r = er) (hs : saveS s r = s') (hv : rtv r = v) :
    Calls Tryz.prog 12 #[.pointer (some ⟨d.b, 0, none⟩), v] w fun e w' => e = .returned (.int .i64 er) ∧ Lives N w0 w' d s' ∧ Keep d.foot w w' := by
  subst hv
  exact lsave r hf L hm he hs

def klC (kp : Bool) : List Int := if kp = true then [0, 1] else []
def nowC (l : List Nat) (kp : Bool) (a : Int) : RV := if kp = true ∨ 128 ≤ a then fC l (l.length + 1) else wasR (fC l) l.length
/-- What follows a crash in the last Save. -/
structure After (s : RSt) (nx : RV) (now : RV) (sA sB sC : RSt) : Prop where
  e1 : saveE s nx = 31
  s1 : saveS s nx = sA
  s2 : bootSt sA = sB
  few : Few sB
  e2 : bE sB = 0
  l2 : ldR sB = now
  e3 : saveE sB ⟨now.n + 1, 9, 0⟩ = 0
  s3 : saveS sB ⟨now.n + 1, 9, 0⟩ = sC
  e4 : bE sC = 0
  l4 : ldR sC = ⟨now.n + 1, 9, 0⟩
  le : now.n ≤ 21
theorem after_crash (l : List Nat) (kp : Bool) (a : Int) (hu : ∀ x ∈ l, x < 4294967296) (h : l.length ≤ 20) :
    ∃ sA sB sC, After (armSt3 (cs (fC l) l.length (l.length : Int)) ⟨1, klC kp, ((l.length + 1) % 2 : Nat), a⟩) (fC l (l.length + 1)) (nowC l kp a) sA sB sC := by
  have hr := fC_rise l hu h
  obtain ⟨c1, c2⟩ := cs_crash (f := fC l) (i := l.length) (l.length : Int) (klC kp) a hr
  have hT : (l.length + 1) % 2 = 0 ∨ (l.length + 1) % 2 = 1 := by omega
  by_cases hw : kp = true ∨ 128 ≤ a
  · have hcut : cutAt (if (((l.length + 1) % 2 : Nat) : Int) ∈ klC kp then 128 else a) (slC (fC l) (l.length + 1)) (slC (fC l) (l.length - 1)) = slC (fC l) (l.length + 1) := by
      refine cut_whole (slC_length _ _) (slC_length _ _) ?_
      split
      · omega
      · rename_i hn
        rcases hw with hk | ha
        · exfalso
          apply hn
          unfold klC
          rw [if_pos hk]
          rcases hT with h | h <;> rw [h] <;> simp
        · exact ha
    rw [hcut, csM_whole] at c2
    have hnow : nowC l kp a = fC l (l.length + 1) := by unfold nowC; rw [if_pos hw]
    have hn1 : (fC l (l.length + 1)).n = l.length + 1 := hr.no _ (by omega) (Nat.le_refl _)
    have hL := fL_rise l (l.length + 2) (by omega) (by omega) (by simpa using hr)
    have hl2 : fL l (l.length + 2) (l.length + 1 + 1) = ⟨l.length + 1 + 1, 9, 0⟩ := by unfold fL; rw [if_pos (by omega)]
    obtain ⟨d1, d2⟩ := cs_save (f := fL l (l.length + 2)) (i := l.length + 1) ((l.length : Int) + 1) hL
    rw [cs_fL l _ (by omega), hl2] at d1 d2
    refine ⟨_, _, _, c1, rfl, c2, cs_few _ _ (by omega), cs_bothE _ _ _, ?_, ?_, ?_, cs_bothE (fL l (l.length + 2)) (l.length + 1 + 1) ((l.length : Int) + 1 + 1), ?_, by rw [hnow, hn1]; omega⟩
    · exact (cs_load _ hr).trans (by rw [hnow]; unfold wasR; rw [if_neg (by omega)])
    · rw [hnow, hn1]; exact d1
    · rw [hnow, hn1]; exact d2
    · rw [hnow, hn1]
      exact (cs_load _ hL).trans (by unfold wasR; rw [if_neg (by omega)]; exact hl2)
  · have hk : kp = false := by
      cases kp
      · rfl
      · exact absurd (.inl rfl) hw
    have ha : a < 128 := by
      rcases Int.lt_or_le a 128 with h | h
      · exact h
      · exact absurd (.inr h) hw
    subst hk
    have hnow : nowC l false a = wasR (fC l) l.length := by unfold nowC; rw [if_neg hw]
    have hsl : slC (fC l) (l.length + 1) = sectR (fC l (l.length + 1)) := by unfold slC; rw [if_neg (by omega)]
    obtain ⟨M, hM⟩ : ∃ M, cutAt (if (((l.length + 1) % 2 : Nat) : Int) ∈ klC false then 128 else a) (slC (fC l) (l.length + 1)) (slC (fC l) (l.length - 1)) = M := ⟨_, rfl⟩
    have hMor : goodR M = false ∨ M = slC (fC l) (l.length - 1) := by
      have hc := torn_or (f := fC l) (i := l.length) (j := a.toNat) (fC l (l.length + 1)) (hr.no _ (by omega) (Nat.le_refl _)) (by omega) (hr.less (by omega)) (by omega)
      rw [← hM, hsl]
      unfold klC cutAt
      rw [if_neg (by simp)]
      exact hc.symm
    rw [hM] at c2
    have hwn : (wasR (fC l) l.length).n = l.length := by
      unfold wasR
      split
      · rename_i h0; rw [h0]; rfl
      · exact hr.no _ (by omega) (by omega)
    have hL := fL_rise l (l.length + 1) (by omega) (by omega) (by simpa using hr.less (show l.length ≤ l.length + 1 by omega))
    have hl2 : fL l (l.length + 1) (l.length + 1) = ⟨l.length + 1, 9, 0⟩ := by unfold fL; rw [if_pos rfl]
    obtain ⟨d1, d2⟩ := csM_save (f := fL l (l.length + 1)) (i := l.length) (M := M) ((l.length : Int) + 1) hL
    rw [csM_fL l _ _ (by omega), hl2] at d1 d2
    refine ⟨_, _, _, c1, rfl, c2, csM_few _ _ _ (by omega), csM_bothE _ _ _ _, ?_, ?_, ?_, cs_bothE (fL l (l.length + 1)) (l.length + 1) ((l.length : Int) + 1 + 1), ?_, by rw [hnow, hwn]; omega⟩
    · exact (csM_load _ (hr.less (by omega)) hMor).trans hnow.symm
    · rw [hnow, hwn]; exact d1
    · rw [hnow, hwn]; exact d2
    · rw [hnow, hwn]
      exact (cs_load _ hL).trans (by unfold wasR; rw [if_neg (by omega)]; exact hl2)

/-- The disk and the root that was saved last, in its box. -/
structure CI (w W : World) (d : DAt) (s : RSt) (q : Nat) (r : RV) : Prop where
  L : Lives w.heap.size w W d s
  b : Blk W q 35 #[.int .u64 r.n, .int .i64 r.len, .int .u32 r.sm]
  far : ¬ d.foot q
  ge : w.heap.size ≤ q
theorem CI.call {w W W' : World} {d : DAt} {s s' : RSt} {q : Nat} {r : RV} (h : CI w W d s q r) (L : Lives w.heap.size w W' d s') (hk : Keep d.foot W W') : CI w W' d s' q r := ⟨L, hk.blk h.b h.far, h.far, h.ge⟩
theorem CI.next {w W W' : World} {d : DAt} {s : RSt} {q : Nat} {r : RV} (h : CI w W d s q r) (hb : Below W.heap.size W W') : CI w W' d s q r := ⟨h.L.next h.L.lt hb, h.b.below hb h.b.lt, h.far, h.ge⟩
theorem keep_box (W : World) (g : Nat) (x y z : Value) : Keep (fun k => k = g) W (((W.setCell ⟨g, 0, none⟩ x).setCell ⟨g, 1, none⟩ y).setCell ⟨g, 2, none⟩ z) := by
  have h1 : Keep (fun k => k = g) W (W.setCell ⟨g, 0, none⟩ x) := (Keep.refl _ _).setCell _ _ (fun _ => rfl)
  exact (h1.setCell _ _ (fun _ => rfl)).setCell _ _ (fun _ => rfl)
theorem CI.put {w W : World} {d : DAt} {s : RSt} {q : Nat} {r : RV} (h : CI w W d s q r) (r' : RV) : CI w (((W.setCell ⟨q, 0, none⟩ (.int .u64 r'.n)).setCell ⟨q, 1, none⟩ (.int .i64 r'.len)).setCell ⟨q, 2, none⟩ (.int .u32 r'.sm)) d s q r' := by
  obtain ⟨kv, hd⟩ := h.L.dk
  have hk := keep_box W q (.int .u64 r'.n) (.int .i64 r'.len) (.int .u32 r'.sm)
  refine ⟨⟨h.L.below.trans (hk.below (by have := h.L.lt; exact this) (fun i hi e => by have := h.ge; omega)), h.L.foot, kv, ?_⟩, ((h.b.set_ 0 _).set_ 1 _).set_ 2 _, h.far, h.ge⟩
  exact hd.keep hk (fun k hf e => h.far (e ▸ hf)) (fun k e => by subst e; exact fun ht => absurd (h.b.typ.ne ht) (by decide))

theorem reads_two {w : World} {g : Nat} (h : Blk w g 3 #[.int .i64 0, .int .i64 1]) : Reads w w.heap.size 1 (some ⟨g, 0, none⟩) 2 ((klC true).map iv) := by
  refine ⟨rfl, fun _ => ⟨_, rfl, h.lt, fun j u hu => ?_⟩⟩
  rw [Addr.add_mid, Nat.zero_add, h.cell]
  rcases j with _ | _ | j
  · exact hu
  · exact hu
  · simp [klC] at hu
section
variable (l : List Nat) (A : Option Addr) (n c : Nat) (kp : Bool) (a : Int) (w : World)

set_option maxRecDepth 100000 in
set_option maxHeartbeats 4000000 in
theorem walk_big (h : 20 < n) :
    Calls Tryz.prog 5 #[.slice A n c, .bool kp, .int .i64 a] w fun e w' => e = .returned (.bool true) ∧ Below w.heap.size w w' := by
  have hd : decide ((20 : Int) < (n : Int)) = true := decide_eq_true (by omega)
  have HA := Lib.hid (ralive_any w)
  go_enter Tryz.func5, Tryz.ntmps5
  go_wp2_with (go_at_call 19; refine HA.out.mono ?_; rintro e w1 ⟨rfl, b1⟩; have B1 := Lib.hid b1; clear b1)
  go_ret
  exact ⟨rfl, B1.out⟩

set_option maxRecDepth 100000 in
set_option maxHeartbeats 4000000 in
theorem walk_small (hl : l.length = n) (hu : ∀ x ∈ l, x < 4294967296) (hr : Reads w w.heap.size 1 A n (l.map uv)) (h : n ≤ 20) (ha : i64ok a) :
    Calls Tryz.prog 5 #[.slice A n c, .bool kp, .int .i64 a] w fun e w' => e = .returned (.bool true) ∧ Below w.heap.size w w' := by
  have hd : decide ((20 : Int) < (n : Int)) = false := decide_eq_false (by omega)
  have hrise := fC_rise l hu (by omega)
  rw [hl] at hrise
  have HA := Lib.hid (ralive_any w)
  have HN := Lib.hid (fun (W : World) (hb : Below w.heap.size w W) => lnew (N := w.heap.size) (w0 := w) (w := W) 2 hb.size hb (by omega) (by omega) (cs_zero (fC l)))
  have RI := Lib.hid hrise
  have HR := Lib.hid (fun W (hb : Below w.heap.size w W) => (hr.below hb))
  have HL := Lib.hid hl
  have HU := Lib.hid hu
  clear hrise hr hl hu
  go_enter Tryz.func5, Tryz.ntmps5
  go_wp2_with (first
    | (go_at_call 19; refine HA.out.mono ?_; rintro e w1 ⟨rfl, b1⟩; have B1 := Lib.hid b1; clear b1)
    | (go_at_call 7; refine (HN.out w1 B1.out).mono ?_; rintro e w2 ⟨d, rfl, l2, _, _⟩; have L2 := Lib.hid l2; clear l2))
  have hCI : CI w (w2.alloc (.cells #[.int .u64 0, .int .i64 0, .int .u32 0] 35)) d (cs (fC l) 0 0) w2.heap.size (wasR (fC l) 0) := by
    obtain ⟨kv, hdk⟩ := L2.out.dk
    exact ⟨L2.out.next L2.out.lt ((Below.refl _ _).alloc (Nat.le_refl _) _), Blk.new w2 _ _, fun hf => by have := hdk.lt _ hf; omega, L2.out.lt⟩
  obtain ⟨q, hq⟩ : ∃ q, w2.heap.size = q := ⟨_, rfl⟩
  rw [hq] at hCI ⊢
  have HCI := Lib.hid hCI
  clear hCI hq L2 B1 HA HN
  go_loopw [36] (fun i wr => ∃ k : Nat, k ≤ n ∧ i = .int .i64 (k : Int) ∧ CI w wr d (cs (fC l) k (k : Int)) q (wasR (fC l) k)) (fun i _ => n - (intOf i).toNat)
  case atStart => exact ⟨0, Nat.zero_le _, rfl, HCI.out⟩
  case round =>
    obtain ⟨k, hk, rfl, hci⟩ := hrel
    by_cases hlt : k < n
    · obtain ⟨adA, x, rfl, _, hx, cA⟩ := (HR.out wr hci.L.below).at_ hlt
      have hxl : l[k]? = some (l.getD k 0) := by rw [List.getD_eq_getElem?_getD, List.getElem?_eq_getElem (by have := HL.out; omega)]; rfl
      obtain ⟨z, hz⟩ : ∃ z, l.getD k 0 = z := ⟨_, rfl⟩
      rw [hz] at hxl
      have hzb : z < 4294967296 := HU.out z (List.mem_of_getElem? hxl)
      have hxv : x = .int .u32 (z : Int) := by
        rw [List.getElem?_map, hxl] at hx
        injection hx with hx
        exact hx.symm
      subst hxv
      have hfn : fC l (k + 1) = ⟨k + 1, ((z % 3073 : Nat) : Int), z⟩ := by
        unfold fC
        rw [if_pos (by have := HL.out; omega), show k + 1 - 1 = k by omega, hz]
      have hwn : (wasR (fC l) k).n = k := by
        unfold wasR
        split
        · rename_i h0; rw [h0]; rfl
        · exact RI.out.no k (by omega) (by omega)
      obtain ⟨⟨rn, rl, rs⟩, hrw⟩ : ∃ r, wasR (fC l) k = r := ⟨_, rfl⟩
      rw [hrw] at hci hwn
      obtain rfl : k = rn := hwn.symm
      have y0 := hci.b.cell 0
      have y1 := hci.b.cell 1
      have y2 := hci.b.cell 2
      have yf0 := hci.b.frozen 0
      have yf1 := hci.b.frozen 1
      have yf2 := hci.b.frozen 2
      obtain ⟨k1, hk1⟩ : ∃ k1, k + 1 = k1 := ⟨_, rfl⟩
      obtain ⟨z3, hz3⟩ : ∃ z3, z % 3073 = z3 := ⟨_, rfl⟩
      have e1 : IntKind.u64.wrap ((k : Int) + 1) = (k1 : Int) := by rw [wrap_u64]; omega
      have e2 : (z : Int).tmod 3073 = (z3 : Int) := by rw [Int.tmod_eq_emod_of_nonneg (by omega)]; omega
      have e3 : IntKind.i64.wrap (z3 : Int) = (z3 : Int) := IntWalk.i64_in _ (by omega)
      have e4 : IntKind.u32.wrap (z3 : Int) = (z3 : Int) := by unfold IntKind.wrap; simp [IntKind.signed, IntKind.bits]; omega
      rw [hk1, hz3] at hfn
      have hsv := cs_save (f := fC l) (i := k) (k : Int) (RI.out.less (by omega))
      have hfi := RI.out.fine (k + 1) (by omega) (by omega)
      have hld : ldR (cs (fC l) (k + 1) ((k : Int) + 1)) = wasR (fC l) (k + 1) := cs_load (f := fC l) (i := k + 1) ((k : Int) + 1) (RI.out.less (by omega))
      have hwr : wasR (fC l) (k + 1) = ⟨k1, (z3 : Int), z⟩ := by unfold wasR; rw [if_neg (by omega), hk1, hfn]
      have hbe : bE (cs (fC l) (k + 1) ((k : Int) + 1)) = 0 := cs_bothE (fC l) (k + 1) ((k : Int) + 1)
      rw [hwr] at hld
      rw [hk1, hfn] at hsv hfi
      rw [hk1] at hld hbe hwr
      have hm1 : (k : Int) + 1 = (k1 : Int) := by omega
      rw [hm1] at hsv hld hbe
      have SV := Lib.hid hsv
      have FI := Lib.hid hfi
      have LD := Lib.hid hld
      have BE := Lib.hid hbe
      have WR := Lib.hid hwr
      have K1 : Hid (k1 = k + 1 ∧ k1 ≤ n) := Lib.hid (by omega)
      have HCK := Lib.hid hci
      have V1 : Hid (rtv (⟨k1, (z3 : Int), z⟩ : RV) = .agg #[.int .u64 (k1 : Int), .int .i64 (z3 : Int), .int .u32 (z : Int)]) := Lib.hid rfl
      clear hxl hz hx hfn hrw hci hk1 hz3 hsv hfi hld hbe hwr hm1
      go_wp2_with fail
      go_still_tail 14, (by kernel_rfl)
      change wpList _ _ _ _ _ wr.drew
      obtain ⟨W1, hW1⟩ : ∃ W1, wr.drew = W1 := ⟨_, rfl⟩
      have hc1 : CI w W1 d (cs (fC l) k (k : Int)) q ⟨k, rl, rs⟩ := by rw [← hW1]; exact HCK.out.next (Below.refl _ _).drew
      have z0 := hc1.b.cell 0
      have z1 := hc1.b.cell 1
      have z2 := hc1.b.cell 2
      have zf0 := hc1.b.frozen 0
      have zf1 := hc1.b.frozen 1
      have zf2 := hc1.b.frozen 2
      have HC1 := Lib.hid hc1
      rw [hW1]
      clear hW1 y0 y1 y2 yf0 yf1 yf2 hc1
      have HPUT := Lib.hid (HC1.out.put ⟨k1, (z3 : Int), z⟩)
      obtain ⟨W2, hW2⟩ : ∃ W2, ((W1.setCell ⟨q, 0, none⟩ (.int .u64 (k1 : Int))).setCell ⟨q, 1, none⟩ (.int .i64 (z3 : Int))).setCell ⟨q, 2, none⟩ (.int .u32 (z : Int)) = W2 := ⟨_, rfl⟩
      simp only [hW2] at HPUT
      have p0 := HPUT.out.b.cell 0
      have p1 := HPUT.out.b.cell 1
      have p2 := HPUT.out.b.cell 2
      clear e1 e2 e3 e4
      go_wp2_with (first
        | (go_at_call 12; (with_reducible refine (lsk HPUT.out.L FI.out (cs_few (fC l) k (by have := K1.out; omega)) SV.out.1 SV.out.2 V1.out).mono ?_); rintro e W3 ⟨rfl, l3, k3⟩; clear hW2; have C3 := Lib.hid (HPUT.out.call l3 k3); have s0 := C3.out.b.cell 0; have s1 := C3.out.b.cell 1; have s2 := C3.out.b.cell 2; clear l3 k3)
        | (go_at_call 18; (with_reducible refine (lik C3.out.L BE.out LD.out V1.out).mono ?_); rintro e W4 ⟨rfl, l4, k4⟩; have C4 := Lib.hid (C3.out.call l4 k4); clear l4 k4))
      refine ⟨⟨k1, K1.out.2, by have := K1.out.1; subst this; go_num, by rw [WR.out]; exact C4.out⟩, by have := K1.out; simp [intOf]; omega⟩
    · obtain rfl : n = k := by omega
      obtain ⟨sA, sB, sC, hAf⟩ := after_crash l kp a HU.out (by have := HL.out; omega)
      rw [HL.out] at hAf
      have hwn : (wasR (fC l) n).n = n := by
        unfold wasR
        split
        · rename_i h0; rw [h0]; rfl
        · exact RI.out.no n (by omega) (by omega)
      have hwf : (wasR (fC l) n).Fine := by
        unfold wasR
        split
        · exact noR_fine
        · exact RI.out.fine n (by omega) (by omega)
      have hnx : fC l (n + 1) = ⟨n + 1, 5, 77⟩ := by unfold fC; rw [if_neg (by have := HL.out; omega)]
      have hnf := RI.out.fine (n + 1) (by omega) (Nat.le_refl _)
      obtain ⟨⟨rn, rl, rs⟩, hrw⟩ : ∃ r, wasR (fC l) n = r := ⟨_, rfl⟩
      have hno : nowC l kp a = if kp = true ∨ 128 ≤ a then ⟨n + 1, 5, 77⟩ else ⟨rn, rl, rs⟩ := by unfold nowC; rw [HL.out, hnx, hrw]
      rw [hrw] at hci hwn hwf
      obtain rfl : n = rn := hwn.symm
      obtain ⟨n1, hn1⟩ : ∃ n1, n + 1 = n1 := ⟨_, rfl⟩
      rw [hn1] at hno hnx hAf hnf
      rw [hnx] at hAf hnf
      obtain ⟨t1, ht1⟩ : ∃ t1, n1 % 2 = t1 := ⟨_, rfl⟩
      rw [ht1] at hAf
      have e1 : IntKind.u64.wrap ((n : Int) + 1) = (n1 : Int) := by rw [wrap_u64]; omega
      have e1' : (n : Int) + 1 = (n1 : Int) := by omega
      have e2 : (n1 : Int) % 2 = (t1 : Int) := by omega
      have e3 : IntKind.i64.wrap (t1 : Int) = (t1 : Int) := IntWalk.i64_in _ (by omega)
      have hfoot : ∀ k, d.foot k → k < wr.heap.size := fun k hk => by
        obtain ⟨kv, hdk⟩ := hci.L.dk
        exact hdk.lt k hk
      have hge : w.heap.size ≤ wr.heap.size := hci.L.lt
      have hm9 : ((n : Int)) < 9223372036854775807 := by omega
      have y0 := hci.b.cell 0
      have y1 := hci.b.cell 1
      have y2 := hci.b.cell 2
      have HCK := Lib.hid hci
      have HF := Lib.hid hfoot
      have HNF := Lib.hid hnf
      have HWF := Lib.hid hwf
      have HN1 : Hid (n1 = n + 1) := Lib.hid hn1.symm
      have VX : Hid (rtv (⟨n1, 5, 77⟩ : RV) = .agg #[.int .u64 (n1 : Int), .int .i64 5, .int .u32 77]) := Lib.hid rfl
      have hlt2 : ¬ ((n : Int) < (n : Int)) := by omega
      obtain ⟨qx, hqx⟩ : ∃ qx, wr.heap.size = qx := ⟨_, rfl⟩
      clear hci hfoot hnf hwf hn1 ht1 hnx hrw hwn hk hlt HR HL HU RI
      cases kp
      · by_cases ha1 : 128 ≤ a
        · have da : decide (128 ≤ a) = true := decide_eq_true ha1
          have hnw : nowC l false a = ⟨n1, 5, 77⟩ := by rw [hno]; rw [if_pos (.inr ha1)]
          rw [hnw] at hAf
          have HAF := Lib.hid hAf
          obtain ⟨WA, hWA⟩ : ∃ WA, (wr.alloc (.cells #[.int .u64 (n1 : Int), .int .i64 5, .int .u32 77] 35)).alloc (.cells #[.int .i64 1, .slice none 0 0, .int .i64 (t1 : Int), .int .i64 a] 39) = WA := ⟨_, rfl⟩
          have hbA : Below wr.heap.size wr WA := by rw [← hWA]; exact ((Below.refl _ wr).alloc (Nat.le_refl _) _).alloc (by simp) _
          have hxA : Blk WA qx 35 #[.int .u64 (n1 : Int), .int .i64 5, .int .u32 77] := by rw [← hWA, ← hqx]; exact (Blk.new wr _ _).alloc _
          have hcA : Blk WA (qx + 1) 39 #[.int .i64 1, .slice none 0 0, .int .i64 (t1 : Int), .int .i64 a] := by rw [← hWA, ← hqx]; exact (by have h := Blk.new (wr.alloc (.cells #[.int .u64 (n1 : Int), .int .i64 5, .int .u32 77] 35)) 39 #[.int .i64 1, .slice none 0 0, .int .i64 (t1 : Int), .int .i64 a]; simpa only [World.size_alloc] using h)
          have hslA : Sl WA WA.heap.size none 0 ((klC false).map iv) := ⟨Reads.none_, Nat.le_refl _, by omega⟩
          have g0 := hcA.cell 0
          have g1 := hcA.cell 1
          have g2 := hcA.cell 2
          have g3 := hcA.cell 3
          have hC0 := HCK.out.next hbA
          have hfx : ¬ d.foot qx := fun hf => by have := HF.out _ hf; omega
          have hKne : ∀ ad : Addr, none = some ad → ad.block ≠ d.b := fun ad e => by cases e
          have HARM := Lib.hid (larm ⟨1, klC false, (t1 : Int), a⟩ none 0 0 ⟨by unfold i64ok; simp only; omega, by unfold i64ok; simp only; omega, ha, (fun x hx => by cases hx)⟩ hC0.L rfl hslA (by simp [klC]) hKne rfl rfl)
          have HX := Lib.hid hxA
          have HC0 := Lib.hid hC0
          have HFX := Lib.hid hfx
          have HBA := Lib.hid hbA
          clear hnw hno hbA hxA hcA hslA hC0 hKne hAf
          try rw [hqx] at hWA
          obtain ⟨s1, hs1⟩ : ∃ s1, armSt3 (cs (fC l) n (n : Int)) ⟨1, klC false, (t1 : Int), a⟩ = s1 := ⟨_, rfl⟩
          have hfw1 : Few s1 := ⟨by rw [← hs1]; exact (cs_few (fC l) n hm9).lt⟩
          rw [hs1] at HARM HAF
          have hae : armErr3 ⟨1, klC false, (t1 : Int), a⟩ = 0 := rfl
          rw [hae] at HARM
          have HFW1 := Lib.hid hfw1
          clear hs1 hfw1 hae
          go_wp2_with (first
            | (go_at_call 20; (with_reducible refine HARM.out.mono ?_); rintro e WB ⟨rfl, lB, kB⟩; clear hWA g0 g1 g2 g3; have KB := Lib.hid kB; have LB := Lib.hid lB; have hxB := kB.blk HX.out HFX.out; have x0 := hxB.cell 0; have x1 := hxB.cell 1; have x2 := hxB.cell 2; have HXB := Lib.hid hxB; have HCB := Lib.hid (HC0.out.call lB kB); clear lB kB hxB)
            | (go_at_call 12; (have l0 := LB.out; clear l0); (with_reducible refine (lsk LB.out HNF.out HFW1.out HAF.out.e1 HAF.out.s1 VX.out).mono ?_); rintro e WC ⟨rfl, lC, kC⟩; clear LB; have KC := Lib.hid kC; have LC := Lib.hid lC; have hxC := kC.blk HXB.out HFX.out; have HXC := Lib.hid hxC; have HCC := Lib.hid (HCB.out.call lC kC); clear lC kC hxC)
            | (go_at_call 10; (with_reducible refine (lboot LC.out HAF.out.s2).mono ?_); rintro e WD ⟨rfl, lD, kD⟩; clear LC; have LD := Lib.hid lD; have hxD := (kD.blk HXC.out HFX.out).alloc (.cells #[.int .u64 (n : Int), .int .i64 rl, .int .u32 (rs : Int)] 35); have u0 := hxD.cell 0; have u1 := hxD.cell 1; have u2 := hxD.cell 2; have hcD := HCC.out.call lD kD; have w0' := hcD.b.cell 0; have w1' := hcD.b.cell 1; have w2' := hcD.b.cell 2; have HCD := Lib.hid hcD; have HXD := Lib.hid hxD; clear lD kD hxD hcD))
          have hCE : CI w (WD.alloc (.cells #[.int .u64 (n1 : Int), .int .i64 5, .int .u32 77] 35)) d sB WD.heap.size ⟨n1, 5, 77⟩ := by
            obtain ⟨kv, hdk⟩ := LD.out.dk
            exact ⟨LD.out.next LD.out.lt ((Below.refl _ _).alloc (Nat.le_refl _) _), Blk.new WD _ _, fun hf => by have := hdk.lt _ hf; omega, LD.out.lt⟩
          have CE := Lib.hid hCE
          obtain ⟨kk, hkk⟩ : ∃ kk, n1 + 1 = kk := ⟨_, rfl⟩
          have hE3 := HAF.out.e3
          have hS3 := HAF.out.s3
          have hL4 := HAF.out.l4
          have hle := HAF.out.le
          simp only at hE3 hS3 hL4 hle
          rw [hkk] at hE3 hS3 hL4
          have E3 := Lib.hid hE3
          have S3 := Lib.hid hS3
          have L4 := Lib.hid hL4
          have e5 : IntKind.u64.wrap ((n1 : Int) + 1) = (kk : Int) := by rw [wrap_u64]; omega
          have e5' : (n1 : Int) + 1 = (kk : Int) := by omega
          have e6 : IntKind.u64.wrap (kk : Int) = (kk : Int) := by rw [wrap_u64]; omega
          have KF : Hid ((⟨kk, 9, 0⟩ : RV).Fine) := Lib.hid ⟨by simp only; omega, by unfold i64ok; simp only; omega, by simp only; omega⟩
          have VN : Hid (rtv (⟨n1, 5, 77⟩ : RV) = .agg #[.int .u64 (n1 : Int), .int .i64 5, .int .u32 77]) := Lib.hid rfl
          have VK : Hid (rtv (⟨kk, 9, 0⟩ : RV) = .agg #[.int .u64 (kk : Int), .int .i64 9, .int .u32 0]) := Lib.hid rfl
          clear hCE hkk hE3 hS3 hL4 hle u0 u1 u2 w0' w1' w2' e1 e1' e2 e3 hqx
          (with_reducible refine (lik CE.out.L HAF.out.e2 HAF.out.l2 VN.out).mono ?_)
          rintro e WF ⟨rfl, lF, kF⟩
          have hcF := CE.out.call lF kF
          have p0 := hcF.b.cell 0
          have hCG : CI w (WF.alloc (.cells #[.int .u64 (kk : Int), .int .i64 9, .int .u32 0] 35)) d sB WF.heap.size ⟨kk, 9, 0⟩ := by
            obtain ⟨kv, hdk⟩ := lF.dk
            exact ⟨lF.next lF.lt ((Below.refl _ _).alloc (Nat.le_refl _) _), Blk.new WF _ _, fun hf => by have := hdk.lt _ hf; omega, lF.lt⟩
          have CG := Lib.hid hCG
          clear lF kF hcF hCG CE
          go_wp2_with (first
            | (go_at_call 12; (have l0 := CG.out; clear l0); (with_reducible refine (lsk CG.out.L KF.out HAF.out.few E3.out S3.out VK.out).mono ?_); rintro e WH ⟨rfl, lH, kH⟩; have hcH := CG.out.call lH kH; have v0 := hcH.b.cell 0; have v1 := hcH.b.cell 1; have v2 := hcH.b.cell 2; have CH := Lib.hid hcH; clear lH kH hcH)
            | (go_at_call 18; (have l0 := CH.out; clear l0); (with_reducible refine (lik CH.out.L HAF.out.e4 L4.out VK.out).mono ?_); rintro e WI ⟨rfl, lI, _⟩; have LI := Lib.hid lI; clear lI))
          go_ret
          exact ⟨rfl, LI.out.below⟩
        · have da : decide (128 ≤ a) = false := decide_eq_false ha1
          have hnw : nowC l false a = ⟨n, rl, rs⟩ := by rw [hno]; rw [if_neg (fun h => h.elim (fun h => by cases h) ha1)]
          rw [hnw] at hAf
          have HAF := Lib.hid hAf
          obtain ⟨WA, hWA⟩ : ∃ WA, (wr.alloc (.cells #[.int .u64 (n1 : Int), .int .i64 5, .int .u32 77] 35)).alloc (.cells #[.int .i64 1, .slice none 0 0, .int .i64 (t1 : Int), .int .i64 a] 39) = WA := ⟨_, rfl⟩
          have hbA : Below wr.heap.size wr WA := by rw [← hWA]; exact ((Below.refl _ wr).alloc (Nat.le_refl _) _).alloc (by simp) _
          have hxA : Blk WA qx 35 #[.int .u64 (n1 : Int), .int .i64 5, .int .u32 77] := by rw [← hWA, ← hqx]; exact (Blk.new wr _ _).alloc _
          have hcA : Blk WA (qx + 1) 39 #[.int .i64 1, .slice none 0 0, .int .i64 (t1 : Int), .int .i64 a] := by rw [← hWA, ← hqx]; exact (by have h := Blk.new (wr.alloc (.cells #[.int .u64 (n1 : Int), .int .i64 5, .int .u32 77] 35)) 39 #[.int .i64 1, .slice none 0 0, .int .i64 (t1 : Int), .int .i64 a]; simpa only [World.size_alloc] using h)
          have hslA : Sl WA WA.heap.size none 0 ((klC false).map iv) := ⟨Reads.none_, Nat.le_refl _, by omega⟩
          have g0 := hcA.cell 0
          have g1 := hcA.cell 1
          have g2 := hcA.cell 2
          have g3 := hcA.cell 3
          have hC0 := HCK.out.next hbA
          have hfx : ¬ d.foot qx := fun hf => by have := HF.out _ hf; omega
          have hKne : ∀ ad : Addr, none = some ad → ad.block ≠ d.b := fun ad e => by cases e
          have HARM := Lib.hid (larm ⟨1, klC false, (t1 : Int), a⟩ none 0 0 ⟨by unfold i64ok; simp only; omega, by unfold i64ok; simp only; omega, ha, (fun x hx => by cases hx)⟩ hC0.L rfl hslA (by simp [klC]) hKne rfl rfl)
          have HX := Lib.hid hxA
          have HC0 := Lib.hid hC0
          have HFX := Lib.hid hfx
          have HBA := Lib.hid hbA
          clear hnw hno hbA hxA hcA hslA hC0 hKne hAf
          try rw [hqx] at hWA
          obtain ⟨s1, hs1⟩ : ∃ s1, armSt3 (cs (fC l) n (n : Int)) ⟨1, klC false, (t1 : Int), a⟩ = s1 := ⟨_, rfl⟩
          have hfw1 : Few s1 := ⟨by rw [← hs1]; exact (cs_few (fC l) n hm9).lt⟩
          rw [hs1] at HARM HAF
          have hae : armErr3 ⟨1, klC false, (t1 : Int), a⟩ = 0 := rfl
          rw [hae] at HARM
          have HFW1 := Lib.hid hfw1
          clear hs1 hfw1 hae
          go_wp2_with (first
            | (go_at_call 20; (with_reducible refine HARM.out.mono ?_); rintro e WB ⟨rfl, lB, kB⟩; clear hWA g0 g1 g2 g3; have KB := Lib.hid kB; have LB := Lib.hid lB; have hxB := kB.blk HX.out HFX.out; have x0 := hxB.cell 0; have x1 := hxB.cell 1; have x2 := hxB.cell 2; have HXB := Lib.hid hxB; have HCB := Lib.hid (HC0.out.call lB kB); clear lB kB hxB)
            | (go_at_call 12; (have l0 := LB.out; clear l0); (with_reducible refine (lsk LB.out HNF.out HFW1.out HAF.out.e1 HAF.out.s1 VX.out).mono ?_); rintro e WC ⟨rfl, lC, kC⟩; clear LB; have KC := Lib.hid kC; have LC := Lib.hid lC; have hxC := kC.blk HXB.out HFX.out; have HXC := Lib.hid hxC; have HCC := Lib.hid (HCB.out.call lC kC); clear lC kC hxC)
            | (go_at_call 10; (with_reducible refine (lboot LC.out HAF.out.s2).mono ?_); rintro e WD ⟨rfl, lD, kD⟩; clear LC; have LD := Lib.hid lD; have hxD := (kD.blk HXC.out HFX.out).alloc (.cells #[.int .u64 (n : Int), .int .i64 rl, .int .u32 (rs : Int)] 35); have u0 := hxD.cell 0; have u1 := hxD.cell 1; have u2 := hxD.cell 2; have hcD := HCC.out.call lD kD; have w0' := hcD.b.cell 0; have w1' := hcD.b.cell 1; have w2' := hcD.b.cell 2; have HCD := Lib.hid hcD; have HXD := Lib.hid hxD; clear lD kD hxD hcD))
          have hCE : CI w (WD.alloc (.cells #[.int .u64 (n : Int), .int .i64 rl, .int .u32 (rs : Int)] 35)) d sB WD.heap.size ⟨n, rl, rs⟩ := by
            obtain ⟨kv, hdk⟩ := LD.out.dk
            exact ⟨LD.out.next LD.out.lt ((Below.refl _ _).alloc (Nat.le_refl _) _), Blk.new WD _ _, fun hf => by have := hdk.lt _ hf; omega, LD.out.lt⟩
          have CE := Lib.hid hCE
          obtain ⟨kk, hkk⟩ : ∃ kk, n + 1 = kk := ⟨_, rfl⟩
          have hE3 := HAF.out.e3
          have hS3 := HAF.out.s3
          have hL4 := HAF.out.l4
          have hle := HAF.out.le
          simp only at hE3 hS3 hL4 hle
          rw [hkk] at hE3 hS3 hL4
          have E3 := Lib.hid hE3
          have S3 := Lib.hid hS3
          have L4 := Lib.hid hL4
          have e5 : IntKind.u64.wrap ((n : Int) + 1) = (kk : Int) := by rw [wrap_u64]; omega
          have e5' : (n : Int) + 1 = (kk : Int) := by omega
          have e6 : IntKind.u64.wrap (kk : Int) = (kk : Int) := by rw [wrap_u64]; omega
          have KF : Hid ((⟨kk, 9, 0⟩ : RV).Fine) := Lib.hid ⟨by simp only; omega, by unfold i64ok; simp only; omega, by simp only; omega⟩
          have VN : Hid (rtv (⟨n, rl, rs⟩ : RV) = .agg #[.int .u64 (n : Int), .int .i64 rl, .int .u32 (rs : Int)]) := Lib.hid rfl
          have VK : Hid (rtv (⟨kk, 9, 0⟩ : RV) = .agg #[.int .u64 (kk : Int), .int .i64 9, .int .u32 0]) := Lib.hid rfl
          clear hCE hkk hE3 hS3 hL4 hle u0 u1 u2 w0' w1' w2' e1 e1' e2 e3 hqx
          (with_reducible refine (lik CE.out.L HAF.out.e2 HAF.out.l2 VN.out).mono ?_)
          rintro e WF ⟨rfl, lF, kF⟩
          have hcF := CE.out.call lF kF
          have p0 := hcF.b.cell 0
          have hCG : CI w (WF.alloc (.cells #[.int .u64 (kk : Int), .int .i64 9, .int .u32 0] 35)) d sB WF.heap.size ⟨kk, 9, 0⟩ := by
            obtain ⟨kv, hdk⟩ := lF.dk
            exact ⟨lF.next lF.lt ((Below.refl _ _).alloc (Nat.le_refl _) _), Blk.new WF _ _, fun hf => by have := hdk.lt _ hf; omega, lF.lt⟩
          have CG := Lib.hid hCG
          clear lF kF hcF hCG CE
          go_wp2_with (first
            | (go_at_call 12; (have l0 := CG.out; clear l0); (with_reducible refine (lsk CG.out.L KF.out HAF.out.few E3.out S3.out VK.out).mono ?_); rintro e WH ⟨rfl, lH, kH⟩; have hcH := CG.out.call lH kH; have v0 := hcH.b.cell 0; have v1 := hcH.b.cell 1; have v2 := hcH.b.cell 2; have CH := Lib.hid hcH; clear lH kH hcH)
            | (go_at_call 18; (have l0 := CH.out; clear l0); (with_reducible refine (lik CH.out.L HAF.out.e4 L4.out VK.out).mono ?_); rintro e WI ⟨rfl, lI, _⟩; have LI := Lib.hid lI; clear lI))
          go_ret
          exact ⟨rfl, LI.out.below⟩
      · 
        have hnw : nowC l true a = ⟨n1, 5, 77⟩ := by rw [hno]; rw [if_pos (.inl rfl)]
        rw [hnw] at hAf
        have HAF := Lib.hid hAf
        obtain ⟨WA, hWA⟩ : ∃ WA, (((wr.alloc (.cells #[.int .u64 (n1 : Int), .int .i64 5, .int .u32 77] 35)).alloc (.cells #[.int .i64 1, .slice none 0 0, .int .i64 (t1 : Int), .int .i64 a] 39)).alloc (.cells #[.int .i64 0, .int .i64 1] 3)).setCell ⟨wr.heap.size + 1, 1, none⟩ (.slice (some ⟨wr.heap.size + 1 + 1, 0, none⟩) 2 2) = WA := ⟨_, rfl⟩
        have hbA : Below wr.heap.size wr WA := by rw [← hWA]; exact ((((Below.refl _ wr).alloc (Nat.le_refl _) _).alloc (by simp) _).alloc (by simp; omega) _).setCell (by show wr.heap.size ≤ wr.heap.size + 1; omega) _
        have hxA : Blk WA qx 35 #[.int .u64 (n1 : Int), .int .i64 5, .int .u32 77] := by rw [← hWA, ← hqx]; exact (((Blk.new wr _ _).alloc _).alloc _).far (by simp) _
        have hcA : Blk WA (qx + 1) 39 #[.int .i64 1, .slice (some ⟨qx + 1 + 1, 0, none⟩) 2 2, .int .i64 (t1 : Int), .int .i64 a] := by rw [← hWA, ← hqx]; exact (by have h := ((Blk.new (wr.alloc (.cells #[.int .u64 (n1 : Int), .int .i64 5, .int .u32 77] 35)) 39 #[.int .i64 1, .slice none 0 0, .int .i64 (t1 : Int), .int .i64 a]).alloc (.cells #[.int .i64 0, .int .i64 1] 3)); simp only [World.size_alloc] at h; have h2 := h.set_ 1 (.slice (some ⟨wr.heap.size + 1 + 1, 0, none⟩) 2 2); exact h2)
        have hslA : Sl WA WA.heap.size (some ⟨qx + 1 + 1, 0, none⟩) 2 ((klC true).map iv) := (by have h := (Blk.new ((wr.alloc (.cells #[.int .u64 (n1 : Int), .int .i64 5, .int .u32 77] 35)).alloc (.cells #[.int .i64 1, .slice none 0 0, .int .i64 (t1 : Int), .int .i64 a] 39)) 3 #[.int .i64 0, .int .i64 1]).far (p := ⟨wr.heap.size + 1, 1, none⟩) (by simp) (.slice (some ⟨wr.heap.size + 1 + 1, 0, none⟩) 2 2); rw [hWA] at h; simp only [World.size_alloc, hqx] at h; exact ⟨reads_two h, by simp [klC], by omega⟩)
        have g0 := hcA.cell 0
        have g1 := hcA.cell 1
        have g2 := hcA.cell 2
        have g3 := hcA.cell 3
        have hC0 := HCK.out.next hbA
        have hfx : ¬ d.foot qx := fun hf => by have := HF.out _ hf; omega
        have hKne : ∀ ad : Addr, (some ⟨qx + 1 + 1, 0, none⟩) = some ad → ad.block ≠ d.b := fun ad e => by injection e with e; subst e; intro h; have := HF.out d.b (.inl rfl); simp only at h; omega
        have HARM := Lib.hid (larm ⟨1, klC true, (t1 : Int), a⟩ (some ⟨qx + 1 + 1, 0, none⟩) 2 2 ⟨by unfold i64ok; simp only; omega, by unfold i64ok; simp only; omega, ha, (fun x hx => by simp [klC] at hx; unfold i64ok; omega)⟩ hC0.L rfl hslA (by simp [klC]) hKne rfl rfl)
        have HX := Lib.hid hxA
        have HC0 := Lib.hid hC0
        have HFX := Lib.hid hfx
        have HBA := Lib.hid hbA
        clear hnw hno hbA hxA hcA hslA hC0 hKne hAf
        try rw [hqx] at hWA
        obtain ⟨s1, hs1⟩ : ∃ s1, armSt3 (cs (fC l) n (n : Int)) ⟨1, klC true, (t1 : Int), a⟩ = s1 := ⟨_, rfl⟩
        have hfw1 : Few s1 := ⟨by rw [← hs1]; exact (cs_few (fC l) n hm9).lt⟩
        rw [hs1] at HARM HAF
        have hae : armErr3 ⟨1, klC true, (t1 : Int), a⟩ = 0 := rfl
        rw [hae] at HARM
        have HFW1 := Lib.hid hfw1
        clear hs1 hfw1 hae
        go_wp2_with (first
          | (go_at_call 20; (with_reducible refine HARM.out.mono ?_); rintro e WB ⟨rfl, lB, kB⟩; clear hWA g0 g1 g2 g3; have KB := Lib.hid kB; have LB := Lib.hid lB; have hxB := kB.blk HX.out HFX.out; have x0 := hxB.cell 0; have x1 := hxB.cell 1; have x2 := hxB.cell 2; have HXB := Lib.hid hxB; have HCB := Lib.hid (HC0.out.call lB kB); clear lB kB hxB)
          | (go_at_call 12; (have l0 := LB.out; clear l0); (with_reducible refine (lsk LB.out HNF.out HFW1.out HAF.out.e1 HAF.out.s1 VX.out).mono ?_); rintro e WC ⟨rfl, lC, kC⟩; clear LB; have KC := Lib.hid kC; have LC := Lib.hid lC; have hxC := kC.blk HXB.out HFX.out; have HXC := Lib.hid hxC; have HCC := Lib.hid (HCB.out.call lC kC); clear lC kC hxC)
          | (go_at_call 10; (with_reducible refine (lboot LC.out HAF.out.s2).mono ?_); rintro e WD ⟨rfl, lD, kD⟩; clear LC; have LD := Lib.hid lD; have hxD := (kD.blk HXC.out HFX.out).alloc (.cells #[.int .u64 (n : Int), .int .i64 rl, .int .u32 (rs : Int)] 35); have u0 := hxD.cell 0; have u1 := hxD.cell 1; have u2 := hxD.cell 2; have hcD := HCC.out.call lD kD; have w0' := hcD.b.cell 0; have w1' := hcD.b.cell 1; have w2' := hcD.b.cell 2; have HCD := Lib.hid hcD; have HXD := Lib.hid hxD; clear lD kD hxD hcD))
        have hCE : CI w (WD.alloc (.cells #[.int .u64 (n1 : Int), .int .i64 5, .int .u32 77] 35)) d sB WD.heap.size ⟨n1, 5, 77⟩ := by
          obtain ⟨kv, hdk⟩ := LD.out.dk
          exact ⟨LD.out.next LD.out.lt ((Below.refl _ _).alloc (Nat.le_refl _) _), Blk.new WD _ _, fun hf => by have := hdk.lt _ hf; omega, LD.out.lt⟩
        have CE := Lib.hid hCE
        obtain ⟨kk, hkk⟩ : ∃ kk, n1 + 1 = kk := ⟨_, rfl⟩
        have hE3 := HAF.out.e3
        have hS3 := HAF.out.s3
        have hL4 := HAF.out.l4
        have hle := HAF.out.le
        simp only at hE3 hS3 hL4 hle
        rw [hkk] at hE3 hS3 hL4
        have E3 := Lib.hid hE3
        have S3 := Lib.hid hS3
        have L4 := Lib.hid hL4
        have e5 : IntKind.u64.wrap ((n1 : Int) + 1) = (kk : Int) := by rw [wrap_u64]; omega
        have e5' : (n1 : Int) + 1 = (kk : Int) := by omega
        have e6 : IntKind.u64.wrap (kk : Int) = (kk : Int) := by rw [wrap_u64]; omega
        have KF : Hid ((⟨kk, 9, 0⟩ : RV).Fine) := Lib.hid ⟨by simp only; omega, by unfold i64ok; simp only; omega, by simp only; omega⟩
        have VN : Hid (rtv (⟨n1, 5, 77⟩ : RV) = .agg #[.int .u64 (n1 : Int), .int .i64 5, .int .u32 77]) := Lib.hid rfl
        have VK : Hid (rtv (⟨kk, 9, 0⟩ : RV) = .agg #[.int .u64 (kk : Int), .int .i64 9, .int .u32 0]) := Lib.hid rfl
        clear hCE hkk hE3 hS3 hL4 hle u0 u1 u2 w0' w1' w2' e1 e1' e2 e3 hqx
        (with_reducible refine (lik CE.out.L HAF.out.e2 HAF.out.l2 VN.out).mono ?_)
        rintro e WF ⟨rfl, lF, kF⟩
        have hcF := CE.out.call lF kF
        have p0 := hcF.b.cell 0
        have hCG : CI w (WF.alloc (.cells #[.int .u64 (kk : Int), .int .i64 9, .int .u32 0] 35)) d sB WF.heap.size ⟨kk, 9, 0⟩ := by
          obtain ⟨kv, hdk⟩ := lF.dk
          exact ⟨lF.next lF.lt ((Below.refl _ _).alloc (Nat.le_refl _) _), Blk.new WF _ _, fun hf => by have := hdk.lt _ hf; omega, lF.lt⟩
        have CG := Lib.hid hCG
        clear lF kF hcF hCG CE
        go_wp2_with (first
          | (go_at_call 12; (have l0 := CG.out; clear l0); (with_reducible refine (lsk CG.out.L KF.out HAF.out.few E3.out S3.out VK.out).mono ?_); rintro e WH ⟨rfl, lH, kH⟩; have hcH := CG.out.call lH kH; have v0 := hcH.b.cell 0; have v1 := hcH.b.cell 1; have v2 := hcH.b.cell 2; have CH := Lib.hid hcH; clear lH kH hcH)
          | (go_at_call 18; (have l0 := CH.out; clear l0); (with_reducible refine (lik CH.out.L HAF.out.e4 L4.out VK.out).mono ?_); rintro e WI ⟨rfl, lI, _⟩; have LI := Lib.hid lI; clear lI))
        go_ret
        exact ⟨rfl, LI.out.below⟩
end
/-- As the end calls it. -/
theorem call {W : World} (A : Option Addr) (c : Nat) (l : List Nat) (hr : Reads W W.heap.size 1 A l.length (l.map fun x : Nat => .int .u32 (x : Int))) (hu : ∀ x ∈ l, x < 4294967296) (kp : Bool) (a : Int) (h1 : -9223372036854775808 ≤ a) (h2 : a ≤ 9223372036854775807) (w : World) (hw : W = w := by rfl) :
    Calls Tryz.prog 5 #[.slice A l.length c, .bool kp, .int .i64 a] w fun e w' => e = .returned (.bool true) ∧ Below w.heap.size w w' := by
  subst hw
  by_cases h : 20 < l.length
  · exact walk_big A _ c kp a W h
  · exact walk_small l A _ c kp a W rfl hu hr (by omega) ⟨h1, h2⟩
end Go.Proofs.YtoiopoghcjkgcaaGreat.rootCrash

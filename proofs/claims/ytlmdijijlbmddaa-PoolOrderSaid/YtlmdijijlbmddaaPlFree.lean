/-
  The pool of layer 10: a frame is freed.
-/
import Derived.Test.YtlmdijijlbmddaaPlMath
namespace Go.Proofs.Ytlmdijijlbmddaa.pool
open Go.RowKit

def FV.wrd (v : FV) : FV := if v.dirty = true then v.clean else v
section
variable {N p m : Nat} {w : World} {q pre post : QL} {ml : ML} {s : PS} {f : FL} {v : FV}
theorem kt6 {a b : World} (h : KT N [54, 79] a b) : KT N [54, 79, 82, 38, 40, 43] a b := h.more (by intro t ht; simp only [List.mem_cons, List.not_mem_nil, or_false] at ht; rcases ht with rfl | rfl <;> decide)
theorem kt65 {a b : World} (h : KT N [54, 82, 38, 40, 43] a b) : KT N [54, 79, 82, 38, 40, 43] a b := h.more (by intro t ht; simp only [List.mem_cons, List.not_mem_nil, or_false] at ht; rcases ht with rfl | rfl | rfl | rfl | rfl <;> decide)
theorem PL.ng (h : PL N w p m false q ml s) : ∀ x ∈ q, x.1.g < w.heap.size := fun x hx => (h.pool.fr x hx).1.el.typ.lt

theorem wr_pl (h : PL N w p m false (pre ++ (f, v) :: post) ml s) (ok : Ok s) (hN : N ≤ w.heap.size) :
    Calls Try.prog 59 #[pv p, pv f.b] w fun e w' => e = .returned (.int .i64 0) ∧ (∃ ml', PL N w' p m false (pre ++ (f, v.wrd) :: post) ml' { s.wr v with fr := pre.map (·.2) ++ v.wrd :: post.map (·.2) }) ∧ KT N [54, 82, 38, 40, 43] w w' := by
  have hfr := h.fr
  rw [List.map_append, List.map_cons] at hfr
  by_cases hd : v.dirty = true
  · obtain ⟨j, hj⟩ := ok.keys v (by rw [hfr]; simp)
    obtain ⟨t0, h1, h2, h3⟩ := idxT_some hj
    have hlog := ok.log
    refine (wr_dirty t0 j h.pool h.mem hd h1 h2 h3 (by omega) ok.L hN).mono ?_
    rintro e w' ⟨rfl, hp, ⟨g, c, hm, hg⟩, hk⟩
    have e1 : s.wr v = { s with L := s.L.set j v.t, log := s.log ++ [⟨2, v.num, 0⟩, ⟨3, v.t.no, v.t.file⟩] } := by
      unfold PS.wr storeL
      rw [if_pos hd, hj]
    have e2 : v.wrd = v.clean := by unfold FV.wrd; rw [if_pos hd]
    rw [e1, e2]
    refine ⟨rfl, ⟨⟨ml.lg, ml.l.set j (g, c)⟩, hp, hm, fun x hx y hy => ?_, by rw [List.map_append, List.map_cons]⟩, hk⟩
    obtain ⟨x0, hx0, hxe⟩ : ∃ x0 ∈ pre ++ (f, v) :: post, x0.1.g = x.1.g := by
      rcases List.mem_append.1 hx with hx | hx
      · exact ⟨x, List.mem_append_left _ hx, rfl⟩
      · rcases List.mem_cons.1 hx with rfl | hx
        · exact ⟨(f, v), by simp, rfl⟩
        · exact ⟨x, List.mem_append_right _ (List.mem_cons_of_mem _ hx), rfl⟩
    rcases List.mem_or_eq_of_mem_set hy with hy | rfl
    · rw [← hxe]
      exact h.ap x0 hx0 y hy
    · have := h.ng x0 hx0
      show x.1.g ≠ g
      omega
  · have hd2 : v.dirty = false := by simpa using hd
    refine (wr_clean h.pool (by simp) hd2).mono ?_
    rintro e w' ⟨rfl, hb⟩
    have e1 : s.wr v = s := by unfold PS.wr; rw [if_neg hd]
    have e2 : v.wrd = v := by unfold FV.wrd; rw [if_neg hd]
    rw [e1, e2, ← hfr]
    exact ⟨rfl, ⟨ml, h.below hb⟩, KT.of_below hb⟩

theorem run_eql_nilnil {P : Program} (w : World) {tp te : TypeId} (hp : P.underlying tp = some (.pointer te)) :
    (binOp .eql tp (.pointer none) (.pointer none)).run P w = .ok (.bool true) w := by
  have h : ∀ d : Nat, (Op.equalIn (d + 1) tp (.pointer none) (.pointer none)).run P w = .ok true w := fun d => by
    simp [Op.equalIn, run_underlying hp]
  simp only [binOp]
  simp [Op.equal, Op.maxDepth, h 9999]
/-- What 'free' answers. -/
def freeP (N p m : Nat) (s : PS) (E : Int) (w' : World) : Prop := match s.free with
  | some s' => E = 0 ∧ PB N w' p m s'
  | none => E = 101 ∧ PB N w' p m s
theorem KT.drewN {T : List TypeId} {a b : World} (h : KT N T a b) (n : Nat) : KT N T a (b.drewN n) := h.trans (KT.of_below (below_drewN (Below.refl _ _) n))
set_option maxRecDepth 100000 in
set_option maxHeartbeats 4000000 in
theorem free_any (h : PL N w p m false q ml s) (ok : Ok s) (hN : N ≤ w.heap.size) :
    Calls Try.prog 49 #[pv p] w fun e w' => (∃ E, e = .returned (.int .i64 E) ∧ freeP N p m s E w') ∧ KT N [54, 79, 82, 38, 40, 43] w w' := by
  obtain ⟨A, c, hb, ho⟩ := h.pool.pool
  have c2 := hb.cell 2
  have c3 := hb.cell 3
  have hfr := h.fr
  have hlen : s.fr.length = q.length := by rw [hfr, List.length_map]
  have hfew := h.pool.few
  have H := Lib.hid h
  have OK := Lib.hid ok
  have HFI : Hid (∀ W, Below w.heap.size w W → Calls Try.prog 81 #[pv p, .func (.func 83) #[] #[]] W fun e w' => (∃ x, e = .returned x ∧ foundQ (fun v => decide (v.pins = 0)) q x) ∧ Below W.heap.size W w') := Lib.hid (fun W hW => first_q (h.pool.below hW) (fun v => decide (v.pins = 0)) 83 #[] (enters_of Try.func83 (by kernel_rfl) rfl) (fun x W _ hf _ => free1_any hf))
  clear h ok hb ho
  obtain ⟨n, hn⟩ : ∃ n, q.length = n := ⟨_, rfl⟩
  obtain ⟨sz, hs⟩ : ∃ sz, s.size = sz := ⟨_, rfl⟩
  rw [hn] at c3 hlen hfew
  rw [hs] at c2 hfew
  have HN := Lib.hid hn
  have HSZ := Lib.hid hs
  have HLEN := Lib.hid hlen
  have HFR := Lib.hid hfr
  clear hn hs hlen hfr hfew
  by_cases hlt : n < sz
  · have hd : decide (n < sz) = true := decide_eq_true hlt
    have HLT := Lib.hid hlt
    clear hlt
    go_enter Try.func49, Try.ntmps49
    go_wp2
    go_quiet (fail)
    have hlt := HLT.out
    go_wp2
    go_ret
    have hbb := below_drewN (Below.refl w.heap.size w) nq
    refine ⟨⟨0, rfl, ?_⟩, KT.of_below hbb⟩
    unfold freeP PS.free
    rw [HLEN.out, HSZ.out, if_pos HLT.out]
    exact ⟨rfl, q, ml, H.out.below hbb⟩
  · have hd : decide (n < sz) = false := decide_eq_false hlt
    have HLT := Lib.hid hlt
    clear hlt
    go_enter Try.func49, Try.ntmps49
    go_wp2
    go_quiet (fail)
    have hlt := HLT.out
    go_wp2_with (go_at_call 81; refine (HFI.out _ (below_drewN (Below.refl _ _) _)).mono ?_; rintro e w2 ⟨⟨x, rfl, hx⟩, hb2⟩; have HX := Lib.hid hx; have HB2 := Lib.hid ((below_drewN (Below.refl w.heap.size w) nq).trans (hb2.mono (Nat.le_refl _))); clear hx hb2)
    have hft := found_take HX.out
    rw [← HFR.out] at hft
    rcases hft with ⟨pre, ⟨f, v⟩, post, hq, hy, rfl, ht⟩ | ⟨rfl, ht⟩
    · have h2 := H.out.below HB2.out
      rw [hq] at h2
      have hN2 : N ≤ w2.heap.size := Nat.le_trans hN HB2.out.size
      have HW := Lib.hid (wr_pl h2 OK.out hN2)
      have HT := Lib.hid ht
      clear ht h2 hq hy
      simp only [pv]
      go_wp2_with (first
        | (go_at_call 59; refine HW.out.mono ?_; rintro e w3 ⟨rfl, ⟨ml', h3⟩, k3⟩; have H3 := Lib.hid h3; have K3 := Lib.hid k3; have HR := Lib.hid (remove_in (pre := pre) (x := (f, v.wrd)) (post := post) h3.pool); clear h3 k3)
        | (go_at_call 58; refine HR.out.mono ?_; rintro e w4 ⟨rfl, h4, k4⟩; have H4 := Lib.hid h4; have K4 := Lib.hid k4; clear h4 k4))
      go_ret
      refine ⟨⟨0, rfl, ?_⟩, ((KT.of_below HB2.out).trans (kt65 K3.out)).trans (kt6 K4.out)⟩
      unfold freeP PS.free
      rw [HLEN.out, HSZ.out, if_neg HLT.out, HT.out]
      refine ⟨rfl, pre ++ post, ml', H4.out, H3.out.mem.keep K4.out (by decide), fun x hx y hy => H3.out.ap x ?_ y hy, by simp⟩
      rcases List.mem_append.1 hx with hx | hx
      · exact List.mem_append_left _ hx
      · exact List.mem_append_right _ (List.mem_cons_of_mem _ hx)
    · have HT := Lib.hid ht
      have qn := fun w => run_eql_nilnil (P := Try.prog) w (tp := 79) (te := 82) Try.underlying79
      clear ht
      simp [eqGuard, qn]
      go_wp2
      go_ret
      refine ⟨⟨101, rfl, ?_⟩, KT.of_below HB2.out⟩
      unfold freeP PS.free
      rw [HLEN.out, HSZ.out, if_neg HLT.out, HT.out]
      exact ⟨rfl, q, ml, H.out.below HB2.out⟩
end
end Go.Proofs.Ytlmdijijlbmddaa.pool

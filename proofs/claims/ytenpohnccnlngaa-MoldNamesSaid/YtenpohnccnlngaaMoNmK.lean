/-
  For MoldNames: a gather map that is none, one that leads to a place, an array of 4,096 elements.
-/
import Derived.Test.YtenpohnccnlngaaNmKit
import Derived.Test.YtenpohnccnlngaaMoBoxZ
namespace Go.Proofs.Ytenpohnccnlngaa.moldNames
open Go.RowKit Go.Proofs.Ytenpohnccnlngaa.arr Go.Proofs.Ytenpohnccnlngaa.mo Go.Proofs.Ytenpohnccnlngaa.tu

set_option maxRecDepth 100000 in
set_option maxHeartbeats 4000000 in
theorem mogo_nil (w : World) : Calls Try.prog 28 #[.agg #[.slice none 0 0, .nilFunc], .int .i64 1, .slice none 0 0] w (GiveE noA 130 w) := by
  have hI := GoI.start w #[.slice none 0 0, .nilFunc] 1 (.slice none 0 0)
  obtain ⟨w1, hw1⟩ : ∃ w1, (((w.alloc (.cells #[.slice none 0 0, .nilFunc] 37)).alloc (.cells #[.int .i64 1] 3)).alloc (.cells #[.slice none 0 0] 69)).alloc (.cells #[.int .i64 0, .slice none 0 0, .slice none 0 0] 25) = w1 := ⟨_, rfl⟩
  rw [hw1] at hI
  obtain ⟨e1, e2⟩ := cnt_ok (show okShape [] = true by decide)
  have HC := Lib.hid (arcount_any none 0 0 [] w1 rfl Reads.none_ (by omega))
  rw [e1, e2] at HC
  have HK := Lib.hid (fun W => mokind_any 1 W)
  have x0 := hI.h0.cell 0
  have x1 := hI.h0.cell 1
  have y0 := hI.h1.cell 0
  have r0 := hI.h3.cell 0
  have r1 := hI.h3.cell 1
  have r2 := hI.h3.cell 2
  have f0 := hI.h3.frozen 0
  have f1 := hI.h3.frozen 1
  have f2 := hI.h3.frozen 2
  have fn0 : ∀ w : World, (binOp .eql 35 .nilFunc .nilFunc).run Try.prog w = .ok (.bool true) w := fun w => (mo_run_fn Try.underlying35 (.func 0) #[] #[] w).1
  have HI := Lib.hid hI
  have hk : kindB 1 = true := by decide
  rw [hk] at HK
  clear hI e1 e2 hk
  go_enter Try.func28, Try.ntmps28
  go_wp2_with (first
    | (go_at_call 69; (try rw [hw1]); refine HC.out.mono ?_; rintro e _ ⟨rfl, rfl⟩)
    | (go_at_call 70; (try rw [hw1]); refine (HK.out _).mono ?_; rintro e _ ⟨rfl, rfl⟩))
  refine bodyPost_ret (results_arr2 rfl rfl rfl (arblk_three _ _ _ HI.out.h3)) rfl ?_
  exact GiveE.no rfl (HI.out.b.trans ((arkeep_three _ _ _ _ _).below HI.out.b.size (fun i hi e => by omega)))
theorem out_any (n : Nat) (W : World) : Calls Try.prog 29 (#[.int .i64 (n : Int)] ++ #[]) W fun e w' => e = .returned (.tuple #[.int .i64 0, .int .i64 2]) ∧ Below W.heap.size W w' := by
  go_enter Try.func29, Try.ntmps29
  go_wp2
  go_ret2
  exact ⟨rfl, Below.refl _ _⟩
def outF (_ : Nat) : Int × Int := (0, 2)
abbrev outV (g : Nat) : Value := .agg #[.slice (some ⟨g, 0, none⟩) 1 1, .func (.func 29) #[] #[]]
theorem out_way {B g : Nat} {W : World} (h : Blk W g 3 #[.int .i64 1]) (hB : B ≤ g) : WayAt B W (outV g) [1] outF :=
  ⟨some ⟨g, 0, none⟩, 1, 29, #[], rfl, own_of_blk h rfl hB (by decide), by have := h.lt; omega, enters_of Try.func29 (by kernel_rfl) rfl, fun W' _ n _ => out_any n W'⟩
theorem go_out (k : Int) (X Y : AV) (E : Int) {B g ge : Nat} {w0 W : World} {p : AP} (hw : WayAt B W (outV g) [1] outF) (hk : Blk W ge 25 (arC X p)) (o : AOwn w0.heap.size W X p) (b0 : X.sh.length ≤ 9223372036854775807) (b1 : X.el.length ≤ 9223372036854775807) (f1 : ∀ z ∈ X.el, -9223372036854775808 ≤ z ∧ z ≤ 9223372036854775807) (hY : goA k [X] [1] outF = Y) (hE : goE k [X] [1] outF = E) :
    Calls Try.prog 28 #[outV g, .int .i64 k, .slice (some ⟨ge, 0, none⟩) 1 1] W (GiveE Y E W) := by
  have h := mogo_any B (outV g) [1] outF k (some ⟨ge, 0, none⟩) 1 [X] W hw (by decide) (xe_els hk o b0 b1 f1) (fun a ha => by
    have : a = X := by simpa using ha
    rw [this]
    exact f1)
  rw [hY, hE] at h
  exact h

/-! ### 4,096 noughts -/
def bigL : List Int := List.replicate 4096 0
def bigZ : Array Value := Array.replicate 4096 (.int .i64 0)
def bigA : AV := ⟨1, [4096], bigL⟩
theorem bigL_len : bigL.length = 4096 := List.length_replicate ..
theorem bigZ_eq : bigZ = (bigL.map iv).toArray := by
  unfold bigZ bigL
  rw [List.map_replicate, List.toArray_replicate]
  rfl
theorem bigL_fine : ∀ z ∈ bigL, -9223372036854775808 ≤ z ∧ z ≤ 9223372036854775807 := fun z hz => by
  rw [List.eq_of_mem_replicate hz]
  decide
theorem big_ok : okA bigA = true := okA_iff.2 ⟨show okShape [4096] = true by decide, by
  rw [show bigA.el.length = 4096 from bigL_len, show bigA.sh = [4096] from rfl, prodI_one]
  omega, rfl⟩
theorem big_val (p : AP) : (.agg #[.int .i64 1, .slice p.A0 1 p.c0, .slice p.A1 4096 p.c1] : Value) = .agg (arC bigA p) := by
  show _ = Value.agg #[.int .i64 1, .slice p.A0 1 p.c0, .slice p.A1 bigL.length p.c1]
  rw [bigL_len]
theorem made_zero (n : Nat) : madeCells (Value.int .i64 0).cells (n * 1) = Array.replicate n (.int .i64 0) := by
  apply Array.ext
  · simp [madeCells]
  · intro i h1 h2
    simp [madeCells, Value.cells, Nat.mod_one]
theorem big_make (w : World) : (Instr.makeSlice 23 (.int .i64 4096) (.int .i64 4096)).run Try.prog w = .ok (.slice (some ⟨w.heap.size, 0, none⟩) 4096 4096) (w.alloc (.cells bigZ 2)) := by
  obtain ⟨i0, hi, hz0, hz1, hz2⟩ := info_parts arInfoI64
  have hg : ∀ n : Nat, n ≤ 5000 → (Instr.makeSlice 23 (.int .i64 (n : Int)) (.int .i64 (n : Int))).run Try.prog w = .ok (.slice (some ⟨w.heap.size, 0, none⟩) n n) (w.alloc (.cells (Array.replicate n (.int .i64 0)) 2)) := fun n hn => by
    have := run_make (P := Try.prog) w 23 2 i0 _ Try.underlying23 hi hz0 .i64 .i64 (n : Int) (n : Int) (by omega) (by omega) (by rw [hz2]; omega) (by omega)
    rw [hz1, Int.toNat_natCast] at this
    rw [this]
    rw [show madeCells (Value.int .i64 0).cells (n * 1) = Array.replicate n (.int .i64 0) from made_zero n]
  exact hg 4096 (by decide)
theorem big_cat (p q : AP) (W : World) (h : AEl W bigA p) (k : AEl W ⟨1, [], [1]⟩ q) (c : Cap bigA p) (d : Cap ⟨1, [], [1]⟩ q) : Calls Try.prog 23 #[.agg (arC bigA p), .agg (arC ⟨1, [], [1]⟩ q)] W (GiveE noA 9 W) := by
  have h1 := mocat_any bigA ⟨1, [], [1]⟩ p q W h k c d
  have e : ctwE [4096] [] = 9 := by decide
  have e1 : ctE bigA ⟨1, [], [1]⟩ = 9 := by
    unfold ctE
    rw [big_ok, one_ok, if_neg (by decide), if_neg (fun h => h.1 rfl)]
    show (if ctwE [4096] [] ≠ 0 then ctwE [4096] [] else _) = _
    rw [e, if_pos (by decide)]
  have e2 : ctA bigA ⟨1, [], [1]⟩ = noA := by
    unfold ctA
    rw [big_ok, one_ok, if_neg (by decide), if_neg (fun h => h.1 rfl)]
    show (if ctwE [4096] [] ≠ 0 then noA else _) = _
    rw [e, if_pos (by decide)]
  rw [e1, e2] at h1
  exact h1
section
variable {P : Program} {ops : Array Oper} {Q : Exit → Act → World → Prop} {md : Region.Mode} {a0 : Act} {o : Oper} {i kb ks tb : Nat} {w0 : World} {X : AV} {l : List Nat} {U : Nat → Value → World → Prop} {vals : List Value}
theorem vx (hU : BxU w0 U) (hi : ops[i]? = some o) (d : Tmp) (hdst : dstOf ops i = some d) (v : Value) (hv : vals.getD i undef = v)
    (h : ∀ (a : Act) (w : World), Below w0.heap.size w0 w → (∀ t, free md ops i t = true → a.tmps[t]? = a0.tmps[t]?) → (∀ j d, behind md ops i j = true → dstOf ops j = some d → ∃ v, a.tmps[d]? = some v ∧ ((j ∉ l → j ≠ kb → v = vals.getD j undef) ∧ (j ∈ l → U j v w))) →
      Region.wanted o (yielded ops a.tmps) = true ∧ (execOp a.eval o).run P w = .ok (.value v) w) (nb : i ≠ kb := by decide) (ns : i ≠ ks := by decide) (hl : i ∉ l := by decide) (hd : d ≠ tb := by decide) : DoneStepT P md ops Q (BxS w0 kb ks tb X) (bxR kb l U vals) a0 i :=
  bx_value hU hi nb ns hl d hdst hd v hv h
theorem mx (hU : BxU w0 U) (hi : ops[i]? = some o) (d : Tmp) (hdst : dstOf ops i = some d)
    (h : ∀ (a : Act) (w : World), Below w0.heap.size w0 w → (∀ t, free md ops i t = true → a.tmps[t]? = a0.tmps[t]?) → (∀ j d, behind md ops i j = true → dstOf ops j = some d → ∃ v, a.tmps[d]? = some v ∧ ((j ∉ l → j ≠ kb → v = vals.getD j undef) ∧ (j ∈ l → U j v w))) →
      Region.wanted o (yielded ops a.tmps) = true ∧ ∃ v w', (execOp a.eval o).run P w = .ok (.value v) w' ∧ Below w.heap.size w w' ∧ U i v w') (nb : i ≠ kb := by decide) (ns : i ≠ ks := by decide) (hl : i ∈ l := by decide) (hd : d ≠ tb := by decide) : DoneStepT P md ops Q (BxS w0 kb ks tb X) (bxR kb l U vals) a0 i :=
  bx_make hU hi nb ns hl d hdst hd h
theorem kx (hU : BxU w0 U) (f : FuncId) (hi : ops[i]? = some o) (d : Tmp) (hdst : dstOf ops i = some d)
    (h : ∀ (a : Act) (w : World), Below w0.heap.size w0 w → (∀ t, free md ops i t = true → a.tmps[t]? = a0.tmps[t]?) → (∀ j d, behind md ops i j = true → dstOf ops j = some d → ∃ v, a.tmps[d]? = some v ∧ ((j ∉ l → j ≠ kb → v = vals.getD j undef) ∧ (j ∈ l → U j v w))) →
      Region.wanted o (yielded ops a.tmps) = true ∧ ∃ args, (execOp a.eval o).run P w = .ok (.enter f args) w ∧ Calls P f args w fun e w' => ∃ v, e = .returned v ∧ Below w.heap.size w w' ∧ U i v w') (nb : i ≠ kb := by decide) (ns : i ≠ ks := by decide) (hl : i ∈ l := by decide) (hd : d ≠ tb := by decide) : DoneStepT P md ops Q (BxS w0 kb ks tb X) (bxR kb l U vals) a0 i :=
  bx_call hU f hi nb ns hl d hdst hd h
theorem ev_t {a : Act} {t : Nat} {v : Value} (h : a.tmps[t]? = some v) : a.eval (.tmp t) = v := by
  show a.tmps.getD t undef = v
  rw [Array.getD_eq_getD_getElem?, h]
  rfl
theorem kc1 {P : Program} {e : Operand → Value} {w : World} {o : Oper} {f : FuncId} {x : Operand} {ts : Array TypeId} {v : Value} (ho : o.op = .call ⟨.value (.func f), #[x], ts⟩) (hf : e (.func f) = .func (.func f) #[] #[]) (hc : (callFunc f #[v]).run P w = .ok (.enter f #[v]) w) (h : e x = v) : (execOp e o).run P w = .ok (.enter f #[v]) w := by
  subst h
  unfold execOp resolve
  rw [ho]
  simp [hf, Deferred.ofValue, invoke, hc]
theorem kc2 {P : Program} {e : Operand → Value} {w : World} {o : Oper} {f : FuncId} {x y : Operand} {ts : Array TypeId} {v u : Value} (ho : o.op = .call ⟨.value (.func f), #[x, y], ts⟩) (hf : e (.func f) = .func (.func f) #[] #[]) (hc : (callFunc f #[v, u]).run P w = .ok (.enter f #[v, u]) w) (h : e x = v) (k : e y = u) : (execOp e o).run P w = .ok (.enter f #[v, u]) w := by
  subst h k
  unfold execOp resolve
  rw [ho]
  simp [hf, Deferred.ofValue, invoke, hc]
theorem kc3 {P : Program} {e : Operand → Value} {w : World} {o : Oper} {f : FuncId} {x y z : Operand} {ts : Array TypeId} {v u t : Value} (ho : o.op = .call ⟨.value (.func f), #[x, y, z], ts⟩) (hf : e (.func f) = .func (.func f) #[] #[]) (hc : (callFunc f #[v, u, t]).run P w = .ok (.enter f #[v, u, t]) w) (h : e x = v) (k : e y = u) (l : e z = t) : (execOp e o).run P w = .ok (.enter f #[v, u, t]) w := by
  subst h k l
  unfold execOp resolve
  rw [ho]
  simp [hf, Deferred.ofValue, invoke, hc]
theorem bxs_cons {W : World} {L : List (Nat × AV × AP)} (h : Bxs W L) {g : Nat} {X : AV} {p : AP} (b : BoxA W g X p) : Bxs W ((g, X, p) :: L) := fun i g' X' p' e => by
  rcases i with _ | i
  · injection e with e
    injection e with e1 e
    injection e with e2 e3
    subst e1 e2 e3
    exact b
  · exact h i _ _ _ (by simpa using e)
theorem put_at {l : List Oper} {f : Tmp → Value} {a : Act} {t : Tmp} {v : Value} (h : (putAll l f a).tmps[t]? = some v) (m : Nat) (hz : a.tmps.size = m) (ht : t < m) (hl : (l.any fun o => o.dst == some t) = true) : f t = v := by
  rw [putAll_at l f a t (by rw [hz]; exact ht), if_pos hl] at h
  exact Option.some.inj h
theorem qX {id : Nat} {w : World} (_hU : BxU w U) (kb ks tb : Nat) (X : AV) (l : List Nat) (vals : List Value) (hr : Region.linearise.go .any ops ops.size 0 (Array.replicate ops.size false) [] = List.range ops.size) (m : Nat) (hz : a0.tmps.size = m) (ht : anyText .any ops m = true)
    (hs : ∀ i, i < ops.size → DoneStepT P .any ops Q (BxS w kb ks tb X) (bxR kb l U vals) a0 i)
    (he : ∀ (done : Nat → Bool) (f : Tmp → Value) (w1 : World), BxS w kb ks tb X done (putAll ops.toList f a0).tmps w1 → (∀ j d, dstOf ops j = some d → bxR kb l U vals done j (f d) w1) → (∀ i, i < ops.size → done i = true) → Q .normal (putAll ops.toList f a0) w1) :
    (Code.region id ops false).wp P Q a0 w :=
  wp_region_offT_on (BxS w kb ks tb X) (bxR kb l U vals) hr m hz ht ⟨Below.refl _ _, fun e => (by cases e), fun e => (by cases e)⟩ hs he
end
end Go.Proofs.Ytenpohnccnlngaa.moldNames

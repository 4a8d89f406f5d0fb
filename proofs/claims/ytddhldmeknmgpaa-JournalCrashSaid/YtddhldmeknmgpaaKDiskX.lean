/-
  The disk of layer 3: it goes down by a crash.
  The disk of layer 3: Down, Write.
  The disk of layer 3: Write.
-/
import Derived.Test.YtddhldmeknmgpaaKDiskG
namespace Go.Proofs.Ytddhldmeknmgpaa
open Go.RowKit Go.Maps Go.MapKept Go.ChangeMaps

/-- What a crash leaves. -/
def fellK (s : RSt) (c : DCrash) : RSt := { s with stays := mixL s (fun _ => true) (fun k => cutAt (stayN c k) (s.cache.getD k []) (s.stays.getD k [])), cache := List.replicate s.stays.length [], write := 0, keep := [], torn := 0, at_ := 0, down := true }

/-- Of the sectors those among the numbers. -/
def among (pre : List (Int × Int)) (k : Nat) : Bool := decide ((k : Int) ∈ pre.map (·.1))
theorem among_snoc (pre : List (Int × Int)) (k : Nat) (v : Int) : among (pre ++ [((k : Int), v)]) k = true := by
  unfold among
  simp
theorem among_other (pre : List (Int × Int)) (k j : Nat) (v : Int) (h : j ≠ k) : among (pre ++ [((k : Int), v)]) j = among pre j := by
  unfold among
  rw [List.map_append, List.map_singleton]
  refine decide_eq_decide.2 ?_
  rw [List.mem_append, List.mem_singleton]
  constructor
  · rintro (h1 | h1)
    · exact h1
    · omega
  · exact .inl

theorem savedN_range (c : DCrash) (a : Int) : 0 ≤ savedN c a ∧ savedN c a ≤ 128 := by
  unfold savedN clampN
  split
  · omega
  · split
    · split
      · omega
      · split <;> omega
    · omega
/-- What stays of a sector, by how much of it is copied. -/
theorem cut_saved {c : DCrash} {k : Nat} {x y : List UInt8} (hx : x.length = 128) (hy : y.length = 128) : cutAt (stayN c k) x y = x.take (savedN c (k : Int)).toNat ++ y.drop (savedN c (k : Int)).toNat := by
  unfold cutAt stayN savedN clampN
  by_cases h1 : (k : Int) ∈ c.keep
  · rw [if_pos h1, if_pos h1]
  · rw [if_neg h1, if_neg h1]
    by_cases h2 : (k : Int) = c.torn
    · rw [if_pos h2.symm, if_pos h2]
      by_cases h3 : c.at_ < 0
      · rw [if_pos h3, show c.at_.toNat = 0 from by omega]
        rfl
      · rw [if_neg h3]
        by_cases h4 : 128 < c.at_
        · rw [if_pos h4, List.take_of_length_le (by omega), List.drop_of_length_le (by omega), List.take_of_length_le (by rw [hx]; decide), List.drop_of_length_le (by rw [hy]; decide)]
        · rw [if_neg h4]
    · rw [if_neg (fun e => h2 e.symm), if_neg h2]
theorem cut_again {n : Nat} {x y : List UInt8} (hx : x.length = 128) (hn : n ≤ 128) : x.take n ++ (x.take n ++ y.drop n).drop n = x.take n ++ y.drop n := by
  rw [List.drop_append_of_le_length (by rw [List.length_take]; omega), List.drop_of_length_le (by rw [List.length_take]; omega), List.nil_append]

theorem KpG.of_keep {g : Nat} {W W' : World} (h : Keep (fun k => k = g) W W') : KpG g W W' := fun p hp v hv => by
  have hlt : p.block < W.heap.size := block_lt_of_cell hv
  exact (World.cell?_of_block (h.block p.block hlt hp)).trans hv
theorem KpG.putObj {g : Nat} (W : World) (l : Nat) (o o' : Obj) (h : W.heap[l]? = some o) (ho : o.isCells = false) : KpG g W (W.putObj l o') := fun p _ v hv => by
  by_cases e : p.block = l
  · unfold World.cell? at hv
    rw [e, h] at hv
    cases o <;> simp_all [Obj.isCells]
  · exact (World.cell?_of_block (World.putObj_heap_other e)).trans hv
theorem others_of_keep {g : Nat} {t : TypeId} {cs : Array Value} {W W' : World} (h : Keep (fun k => k = g) W W') (hb : Blk W g t cs) : KeepsOthers W W' :=
  ⟨h.size, fun k o hk ho => by
    have hlt : k < W.heap.size := (Array.getElem?_eq_some_iff.1 hk).1
    by_cases e : k = g
    · subst e
      unfold Blk at hb
      rw [hb] at hk
      injection hk with hk
      subst hk
      cases ho
    · exact (h.block k hlt e).trans hk⟩

theorem wpListIn_clear_map {P : Program} {F : Fence} {n : Nat} {ops : Array Oper} {Q : Exit → Act → World → Prop} {a : Act} {w : World} {rest : List Oper} {o : Oper} (hg : o.guard = none) (m : Operand) (t : TypeId) (hop : o.op = Op.call { callee := Callee.builtin Builtin.clear, args := #[m], argTypes := #[t] })
    (k e : TypeId) (ht : P.underlying t = some (.map k e)) (b : Nat) (hm : a.eval m = .map (some b)) (es : Array MapEntry) (clock : Nat) (hb : w.heap[b]? = some (.map es clock))
    (hK : wpListIn F n P ops Q rest (a.put o.dst (.tuple #[])) (setBlock w b (.map #[] clock))) : wpListIn F n P ops Q (o :: rest) a w := by
  refine wpListIn_plain hg fun K' hK' => (mute_clear hop).wpIn ?_
  unfold Oper.wp
  simp [execOp, hop, resolve, invoke, builtin, hm, run_clear_map t k e ht o.type hb, Result.andThen]
  exact hK' _ _ hK

section
variable {w : World} {d : DAt} {kv : Value} {s : RSt}

/-- What holds between two rounds. -/
structure FI (d : DAt) (s : RSt) (c : DCrash) (w : World) (pre : List (Fate s c)) (W : World) : Prop where
  dur : Dur W d.g d.cS (mixL s (among (pre.map (·.1))) (fun k => cutAt (stayN c k) (s.cache.getD k []) (s.stays.getD k [])))
  keep : Keep (fun k => k = d.g) w W
  box : Blk W w.heap.size 35 #[.pointer (some ⟨d.b, 0, none⟩)]

theorem FI.turn {c : DCrash} {pre : List (Fate s c)} {W W' : World} {B : Nat} (h : FI d s c w pre W) (hk : Keep (fun k => B ≤ k) W W') (hg : d.g < B) (hw : w.heap.size < B) : FI d s c w pre W' :=
  ⟨h.dur.keep hk (by omega), h.keep.trans hk (fun i hi e => by omega), hk.blk h.box (by omega)⟩

theorem cut_len {c : DCrash} (h : DK w d kv s) : ∀ k, 0 < (s.cache.getD k []).length → k < s.stays.length → (cutAt (stayN c k) (s.cache.getD k []) (s.stays.getD k [])).length = 128 := fun k hp hk => by
  refine cutAt_length ?_ (h.ok.stay _ (get_mem hk))
  have := h.ok.wait _ (get_mem (k := k) (by rw [h.ok.same]; exact hk))
  omega

section
attribute [local go_sem] Oper.semAt_some
set_option maxRecDepth 100000 in
set_option maxHeartbeats 4000000 in
theorem dfall_any (c : DCrash) (KA : Option Addr) (Kc : Nat) (h : DK w d kv s) (hk : Sl w w.heap.size KA Kc (c.keep.map iv)) :
    Calls Try.prog 62 #[.pointer (some ⟨d.b, 0, none⟩), .agg #[.int .i64 c.write, .slice KA c.keep.length Kc, .int .i64 c.torn, .int .i64 c.at_]] w fun e w' => e = .returned (.tuple #[]) ∧ DK w' d (.slice none 0 0) (fellK s c) ∧ Keep d.foot w w' := by
  refine (callsIn_wide (n := 7)).1 ?_
  obtain ⟨X, hX⟩ : ∃ X, (#[.int .i64 c.write, .slice KA c.keep.length Kc, .int .i64 c.torn, .int .i64 c.at_] : Array Value) = X := ⟨_, rfl⟩
  obtain ⟨W1, hW1⟩ : ∃ W1, (w.alloc (.cells #[.pointer (some ⟨d.b, 0, none⟩)] 35)).alloc (.cells X 52) = W1 := ⟨_, rfl⟩
  have hB1 : Below w.heap.size w W1 := by rw [← hW1]; exact ((Below.refl _ w).alloc (Nat.le_refl _) _).alloc (by simp) _
  have hs1 : W1.heap.size = w.heap.size + 2 := by rw [← hW1]; simp
  have h1 : DK W1 d kv s := h.below hB1
  have q1 : Blk W1 w.heap.size 35 #[.pointer (some ⟨d.b, 0, none⟩)] := by rw [← hW1]; exact (Blk.new w _ _).alloc _
  have q2 : Blk W1 (w.heap.size + 1) 52 X := by
    rw [← hW1]
    have := Blk.new (w.alloc (.cells #[.pointer (some ⟨d.b, 0, none⟩)] 35)) 52 X
    simp only [World.size_alloc] at this
    exact this
  have hk1 : Sl W1 W1.heap.size KA Kc (c.keep.map iv) := (hk.below hB1).more hB1.size
  have e1 : W1.cell? ⟨w.heap.size, 0, none⟩ = some (.pointer (some ⟨d.b, 0, none⟩)) := q1.cell 0
  have hFt := dfates_any c KA Kc h1 hk1
  rw [hX] at hFt ⊢
  have HFT := Lib.hid hFt
  have HQ2 := Lib.hid (show W1.heap[w.heap.size + 1]? = some (.cells X 52 (0, 0)) from q2)
  have hXi : (Try.prog.info? 52).map (·.size) = some X.size := by rw [← hX]; kernel_rfl
  have HXI := Lib.hid hXi
  have HQ1 := Lib.hid q1
  have HB1 := Lib.hid hB1
  have HS1 := Lib.hid hs1
  have H := Lib.hid h
  clear hFt h1 h hk hk1 q2 hX hXi q1 hB1 hs1
  refine callsIn_of_wp_marks Try.func62 rfl trivial ?_
  simp only [Try.ntmps62, List.size_toArray, List.length_cons, List.length_nil, Nat.reduceAdd, Nat.reduceSub, Array.replicate_succ, Array.replicate_zero, List.push_toArray, List.append_toArray, List.nil_append, List.cons_append]
  gi_wp2
  refine wpIn_scope_w ?_
  gi_wp2
  refine wpIn_label ?_
  have hff : Fence.wide.fn 71 := trivial
  gi_wp2_with (first
    | (with_reducible refine wpListIn_load_row rfl 52 (.tmp 3) rfl (w.heap.size + 1) rfl 52 X (0, 0) _ HQ2.out Try.underlying52 rfl HXI.out ?_)
    | (gi_at_call 71; refine (callsIn_wide.2 HFT.out).mono ?_; rintro e W2 ⟨b1, b2, b3, b4, gM, rfl, hF2, hb, hB2⟩))
  have hg1 := H.out.lt _ (.inr (.inl rfl))
  have hB1 := HB1.out
  have hs1 := HS1.out
  have hz2 := hB2.size
  have hBw2 : Below w.heap.size w W2 := hB1.trans (hB2.mono hB1.size)
  have h2 : DK W2 d kv s := H.out.below hBw2
  have hFI0 : FI d s c w [] W2 := by
    refine ⟨?_, Keep.of_below hBw2, HQ1.out.below hB2 (by omega)⟩
    show Dur W2 d.g d.cS (mixL s (among []) _)
    rw [mixL_start (p := among []) (fun k _ => rfl)]
    exact h2.dur
  have HFI0 := Lib.hid hFI0
  have H2 := Lib.hid h2
  have HF2 := Lib.hid hF2
  have HBW2 := Lib.hid hBw2
  clear hFI0 h2 hF2 hB1 hB2 hBw2
  refine wpIn_rangeFunc_ownF rfl (by omega) (gf := 74) (lb := #[.pointer (some ⟨b1, 0, none⟩), .pointer (some ⟨b3, 0, none⟩), .pointer (some ⟨b2, 0, none⟩), .pointer (some ⟨b4, 0, none⟩)]) rfl trivial (enters_of Try.func74 (by kernel_rfl) rfl)
    (fates_stops 6 (by omega) b1 b2 b3 b4 gM c KA Kc W2 H2.out HF2.out (by omega)) (fun h k => h.trans k)
    (fun W l o o' _ hl ho _ => KpG.putObj W l o o' hl ho) (Below.refl _ _) (fun _ => rfl)
    (FI d s c w) (fun _ _ _ => False)
    (fun s' W W' row hs hg hr => hs.turn (keep_grown hg (fun k e => (hr k e).1)) (by omega) (by omega))
    (fun _ _ _ _ _ hs _ _ => hs)
    HFI0.out
    (fun x => { tmps := #[.pointer (some ⟨d.b, 0, none⟩), .agg X, .pointer (some ⟨w.heap.size, 0, none⟩), .pointer (some ⟨w.heap.size + 1, 0, none⟩), .int .i64 x.1.1, .int .i64 x.1.2, undef, .pointer (some ⟨d.b, 0, none⟩), .agg X,
          .func (.func 74) #[] #[.pointer (some ⟨b1, 0, none⟩), .pointer (some ⟨b3, 0, none⟩), .pointer (some ⟨b2, 0, none⟩), .pointer (some ⟨b4, 0, none⟩)], .int .i64 x.1.1, .int .i64 x.1.2, undef, undef, undef, undef, undef, undef, undef, undef, undef, undef, undef, undef, undef, undef, undef, undef, undef, undef, undef, undef, undef, undef, undef, undef, undef, undef, undef, undef, undef], defers := [] }) ?assign ?body ?done ?stop
  case assign =>
    intro l x W K hK
    gi_wp2
    exact hK
  case body =>
    rintro l pre x W hFI _
    obtain ⟨a, ha, hxe⟩ := List.mem_map.1 x.2
    have hw3 : waits3 s = pendTo s.cache s.cache.length := by unfold waits3; rw [pendTo_waits, H.out.ok.same]
    rw [hw3] at ha
    obtain ⟨k, hkl, rfl, hp⟩ := mem_pendTo.1 ha
    have hx1 : x.1.1 = (k : Int) := by rw [← hxe]
    have hx2 : x.1.2 = savedN c (k : Int) := by rw [← hxe]
    have hkn : k < s.stays.length := by rw [← H.out.ok.same]; exact hkl
    have hl128 : (s.cache.getD k []).length = 128 := by
      have := H.out.ok.wait _ (get_mem hkl)
      omega
    have hy128 : (s.stays.getD k []).length = 128 := H.out.ok.stay _ (get_mem hkn)
    obtain ⟨hq0, hq1⟩ := savedN_range c (k : Int)
    have hcut := cut_saved (c := c) (k := k) hl128 hy128
    obtain ⟨q, hq⟩ := Int.eq_ofNat_of_zero_le hq0
    rw [hq] at hx2 hq1
    obtain ⟨f, hf⟩ : ∃ f : Nat → List UInt8, (fun k => cutAt (stayN c k) (s.cache.getD k []) (s.stays.getD k [])) = f := ⟨_, rfl⟩
    have hfk : (s.cache.getD k []).take q ++ (s.stays.getD k []).drop q = f k := by
      rw [← hf]
      show _ = cutAt (stayN c k) (s.cache.getD k []) (s.stays.getD k [])
      rw [hcut, hq, Int.toNat_natCast]
    obtain ⟨L, hL⟩ : ∃ L, mixL s (among (pre.map (·.1))) f = L := ⟨_, rfl⟩
    have hdur : Dur W d.g d.cS L := by rw [← hL, ← hf]; exact hFI.dur
    have hLl : L.length = s.stays.length := by rw [← hL]; exact mixL_length _ _ _
    have hL8 : ∀ l ∈ L, l.length = 128 := by rw [← hL, ← hf]; exact mixL_len H.out.ok.stay (cut_len H.out)
    have hold : ∃ old, L[k]? = some old ∧ (s.cache.getD k []).take q ++ old.drop q = f k := by
      rw [← hL]
      refine ⟨_, mixL_at hkn, ?_⟩
      split
      · rw [← hfk]
        exact cut_again hl128 (by omega)
      · exact hfk
    have hnext : ∀ W', Keep (fun i => i = d.g) W W' → Dur W' d.g d.cS (L.set k (f k)) → FI d s c w (pre ++ [x]) W' := fun W' hk hd => by
      refine ⟨?_, hFI.keep.trans hk (fun _ _ e => e), hk.blk hFI.box (fun e => by omega)⟩
      have hmap : (pre ++ [x]).map (·.1) = pre.map (·.1) ++ [((k : Int), x.1.2)] := by
        rw [List.map_append, List.map_singleton, ← hx1]
      rw [hf, hmap, mixL_step (p := among (pre.map (·.1))) hkn hp (among_snoc _ _ _) (fun j hj => among_other _ _ _ _ hj), hL]
      exact hd
    have hbb : Blk W d.b _ _ := hFI.keep.blk H.out.blk (fun e => H.out.b_ne_g e)
    have e0 : W.cell? ⟨w.heap.size, 0, none⟩ = some (.pointer (some ⟨d.b, 0, none⟩)) := hFI.box.cell 0
    have e2 : W.cell? ⟨d.b, 2, none⟩ = some (.map (some d.m)) := hbb.cell 2
    have hlk := (((H.out.cac.keep hFI.keep (fun e => H.out.g_ne_m e.symm)).look hkl (by rw [H.out.ok.same]; exact H.out.ok.few)).1 hp).2
    rw [hx1, hx2]
    generalize s.cache.getD k [] = x' at *
    by_cases hqz : q = 0
    · subst hqz
      obtain ⟨old, ho1, ho2⟩ := hold
      rw [List.take_zero, List.nil_append, List.drop_zero] at ho2
      subst ho2
      have hfin : KeepsOthers W W ∧ KpG d.g W W ∧ FI d s c w (pre ++ [x]) W := ⟨KeepsOthers.refl _, KpG.refl _ _, hnext W (Keep.refl _ _) (by
        have : L.set k (f k) = L := by
          apply List.ext_getElem?
          intro j
          by_cases e : k = j
          · subst e
            rw [List.getElem?_set_self (by rw [hLl]; exact hkn), ho1]
          · rw [List.getElem?_set_ne e]
        rw [this]
        exact hdur)⟩
      have HFIN := Lib.hid hfin
      clear hfin hnext hdur hfk hcut ho1 hbb hlk hf hL hLl hL8 hFI hxe hx1 hx2
      gi_wp2
      exact HFIN.out
    · have hq128 : q ≤ 128 := by omega
      have hqe : ((q : Int) == 0) = false := by rw [beq_eq_false_iff_ne]; omega
      obtain ⟨old, ho1, ho2⟩ := hold
      have hz := zeroSec
      obtain ⟨Z, hZ⟩ : ∃ Z, ((List.replicate 128 0).map bv).toArray = Z := ⟨_, rfl⟩
      have hzv : secV (List.replicate 128 0) = .agg Z := by rw [← hZ]; rfl
      have hZs : Z.size = 128 := by rw [← hZ]; simp
      rw [hzv] at hz
      obtain ⟨V, hV⟩ : ∃ V, (x'.map bv).toArray = V := ⟨_, rfl⟩
      have hxv : secV x' = .agg V := by rw [← hV]; rfl
      have hVs : V.size = 128 := by rw [← hV]; simpa using hl128
      have hV1 : V.all (·.oneCell') = true := by rw [← hV]; exact oneSec x'
      have hA := heap_alloc_new W (.cells Z 80)
      obtain ⟨W4, hW4⟩ : ∃ W4, (W.alloc (.cells Z 80)).setRow W.heap.size V = W4 := ⟨_, rfl⟩
      have hB4 : Below W.heap.size W W4 := by rw [← hW4]; exact below_setRow ((Below.refl _ _).alloc (Nat.le_refl _) _) (Nat.le_refl _) V
      have hH4 : Blk W4 W.heap.size 80 V := by rw [← hW4]; exact setRow_heap _ _ _ _ _ _ hA
      have hszW : w.heap.size < W.heap.size := hFI.box.lt
      have e04 : W4.drew.cell? ⟨w.heap.size, 0, none⟩ = some (.pointer (some ⟨d.b, 0, none⟩)) := (hB4.cell (p := ⟨w.heap.size, 0, none⟩) hszW).trans e0
      have e14 : W4.drew.cell? ⟨d.b, 1, none⟩ = some (.slice (some ⟨d.g, 0, none⟩) s.stays.length d.cS) := (hB4.cell (p := ⟨d.b, 1, none⟩) hbb.lt).trans (hbb.cell 1)
      obtain ⟨cur, hcb, hc1, hc2, hc3⟩ := hdur
      have hcb4 : W4.drew.heap[d.g]? = some (.cells cur 80 (0, 0)) := (hB4.block d.g hcb.lt).trans hcb
      obtain ⟨Y, hY⟩ : ∃ Y, (x'.take q).map bv = Y := ⟨_, rfl⟩
      have hYl : Y.length = q := by rw [← hY, List.length_map, List.length_take]; omega
      have hY1 : ∀ u ∈ Y, u.oneCell' = true := by rw [← hY]; exact bv_one _
      have hsrc : ∀ j u, Y[j]? = some u → W4.drew.cell? ((⟨W.heap.size, 0, none⟩ : Addr).add j) = some u := fun j u hu => by
        rw [Addr.add_mid, Nat.zero_add]
        refine (hH4.cell j).trans ?_
        rw [← hY, List.getElem?_map] at hu
        obtain ⟨z, hz1, rfl⟩ := Option.map_eq_some_iff.1 hu
        have hjq : j < q := by
          have := (List.getElem?_eq_some_iff.1 hz1).1
          rw [List.length_take] at this
          omega
        rw [List.getElem?_take_of_lt hjq] at hz1
        rw [← hV, List.getElem?_toArray, List.getElem?_map, hz1]
        rfl
      have hfit : k * 128 + Y.length ≤ cur.size := by rw [hYl]; omega
      obtain ⟨NC, hNC⟩ : ∃ NC, (cur.toList.take (k * 128) ++ (Y ++ cur.toList.drop (k * 128 + Y.length))).toArray = NC := ⟨_, rfl⟩
      obtain ⟨W5, hW5⟩ : ∃ W5, W4.drew.setRow d.g NC = W5 := ⟨_, rfl⟩
      have hn5 : Blk W5 d.g 80 NC := by rw [← hW5]; exact setRow_heap _ _ _ _ _ _ hcb4
      have hk5 : Keep (fun i => i = d.g) W W5 := by
        rw [← hW5]
        exact (Keep.of_below hB4).drew.setRow NC (fun _ => rfl)
      have hd5 : Dur W5 d.g d.cS (L.set k (f k)) := by
        rw [← ho2]
        refine Dur.splice (cur := cur) ?_ hc1 hc2 hc3 hL8 ho1 hl128 hq128
        rw [hY, hNC]
        exact hn5
      have HFIN := Lib.hid (And.intro (others_of_keep hk5 hcb) (And.intro (KpG.of_keep hk5) (hnext W5 hk5 hd5)))
      have HA := Lib.hid hA
      have HW4 := Lib.hid hW4
      have HW5 := Lib.hid hW5
      have HNC := Lib.hid hNC
      have HZS := Lib.hid hZs
      have HVS := Lib.hid hVs
      have HV1 := Lib.hid hV1
      have HYL := Lib.hid hYl
      have HY1 := Lib.hid hY1
      have HSRC := Lib.hid hsrc
      have HFIT := Lib.hid hfit
      have HCB := Lib.hid hcb4
      rw [hxv] at hlk
      have hfew := H.out.ok.few
      generalize s.stays.length = N at *
      clear hnext hfk hcut ho1 ho2 hbb hf hL hLl hL8 hFI hxe hx1 hx2 hA hW4 hW5 hNC hZs hVs hV1 hYl hY1 hsrc hfit hcb4 hcb hc1 hc2 hc3 hn5 hk5 hd5 hB4 hH4 hZ hzv hV hxv hY hq hq0
      gi_wp2_with (with_reducible refine wpListIn_store_row rfl 80 (.tmp 6) (.tmp 19) rfl W.heap.size V rfl rfl 80 Z HA.out (by rw [HVS.out]; exact sizeSec) (by rw [HVS.out, HZS.out]) HV1.out ?_; rw [HW4.out])
      go_frame
      refine wpIn_region_still_tail (fun ⟨_, _, h⟩ => h) 9 (by kernel_rfl) (by kernel_rfl) (by
        repeat (refine List.forall_mem_cons.2 ⟨(by first | exact mute_move rfl | exact mute_load rfl | exact mute_nilCheck rfl | exact mute_fieldAddr rfl | exact mute_indexAddr rfl | exact mute_slice rfl | exact mute_copy rfl), ?_⟩)
        exact fun _ h => nomatch h) ?_
      simp only [List.take_succ_cons, List.take_zero, List.drop_succ_cons, List.drop_zero]
      repeat still_step
      refine wpStill_nil ?_
      change wpList _ _ _ _ _ W4.drew
      refine wpList_copy_own rfl (.tmp 27) (.tmp 28) 23 23 rfl 5 Try.underlying23 sizeU8 d.g (k * 128) q 128 ⟨W.heap.size, 0, none⟩ 128 128 rfl rfl cur 80 HCB.out Y (HYL.out.trans (Nat.min_eq_right hq128).symm) HSRC.out HFIT.out HY1.out ?_
      rw [HNC.out, HW5.out]
      exact HFIN.out
  case done =>
    rintro D xs W hD hS hFI hK
    have hbb : Blk W d.b _ _ := hFI.keep.blk H.out.blk (fun e => H.out.b_ne_g e)
    have hmapW := H.out.cac.keep hFI.keep (fun e => H.out.g_ne_m e.symm)
    obtain ⟨es, clock, hm⟩ := hmapW.at_
    have e0 : W.cell? ⟨w.heap.size, 0, none⟩ = some (.pointer (some ⟨d.b, 0, none⟩)) := hFI.box.cell 0
    have e2 : W.cell? ⟨d.b, 2, none⟩ = some (.map (some d.m)) := hbb.cell 2
    have hdone : mixL s (among (xs.map (·.1))) (fun k => cutAt (stayN c k) (s.cache.getD k []) (s.stays.getD k [])) = (fellK s c).stays := by
      refine mixL_end (q := fun _ => true) (fun k hp => ?_)
      rw [hS]
      unfold among
      refine decide_eq_true ?_
      unfold fateL
      rw [List.map_map]
      refine List.mem_map.2 ⟨(k : Int), ?_, rfl⟩
      unfold waits3
      rw [pendTo_waits, ← H.out.ok.same]
      refine mem_pendTo.2 ⟨k, ?_, rfl, hp⟩
      rcases Nat.lt_or_ge k s.cache.length with h | h
      · exact h
      · rw [List.getD_eq_getElem?_getD, List.getElem?_eq_none h] at hp; cases hp
    have hlt := H.out.lt
    have hszW : w.heap.size < W.heap.size := hFI.box.lt
    -- the cache is cleared
    obtain ⟨W6, hW6⟩ : ∃ W6, setBlock W d.m (.map #[] clock) = W6 := ⟨_, rfl⟩
    have hk6 : Keep (fun k => k = d.m) W W6 := by rw [← hW6]; exact keep_setBlock (Keep.refl _ _) hm (fun _ => rfl)
    have hm6 : MapOf W6 d.m (List.replicate s.stays.length []) := by rw [← hW6]; exact hmapW.clear hm
    have hb6 : Blk W6 d.b _ _ := hk6.blk hbb (fun e => H.out.b_ne_m e)
    have hx6 : Blk W6 w.heap.size _ _ := hk6.blk hFI.box (fun e => by have := hlt d.m (.inr (.inr rfl)); omega)
    have hd6 := hFI.dur.keep hk6 (fun e => H.out.g_ne_m e)
    have e06 : W6.cell? ⟨w.heap.size, 0, none⟩ = some (.pointer (some ⟨d.b, 0, none⟩)) := hx6.cell 0
    -- the crash is no longer armed
    obtain ⟨Z4, hZ4⟩ : ∃ Z4, (#[.int .i64 0, .slice none 0 0, .int .i64 0, .int .i64 0] : Array Value) = Z4 := ⟨_, rfl⟩
    have hZ4l : Z4.toList = [.int .i64 0, .slice none 0 0, .int .i64 0, .int .i64 0] := by rw [← hZ4]
    have hZ41 : Z4.all (·.oneCell') = true := by rw [← hZ4]; simp [Value.oneCell']
    have hZ4i : (Try.prog.info? 52).map (·.size) = some Z4.size := by rw [← hZ4]; kernel_rfl
    obtain ⟨W7, hW7⟩ : ∃ W7, W6.setCells d.b 5 Z4.toList = W7 := ⟨_, rfl⟩
    have hk7 : Keep (fun k => k = d.b) W6 W7 := by rw [← hW7]; exact keep_setCells Z4.toList 5 W6 (Keep.refl _ _) (fun _ => rfl)
    have hb7 : Blk W7 d.b 76 #[.pointer (some ⟨d.b, 0, none⟩), .slice (some ⟨d.g, 0, none⟩) s.stays.length d.cS, .map (some d.m), .int .i64 s.many, .bool s.down, .int .i64 0, .slice none 0 0, .int .i64 0, .int .i64 0] := by
      rw [← hW7, hZ4l]
      exact blk_setCells [.int .i64 0, .slice none 0 0, .int .i64 0, .int .i64 0] 5 W6 _ hb6 (by simp)
    have hx7 : Blk W7 w.heap.size _ _ := hk7.blk hx6 (fun e => by have := hlt d.b (.inl rfl); omega)
    have e07 : W7.cell? ⟨w.heap.size, 0, none⟩ = some (.pointer (some ⟨d.b, 0, none⟩)) := hx7.cell 0
    have e47 : W7.cell? ⟨d.b, 4, none⟩ = some (.bool s.down) := hb7.cell 4
    have f47 := hb7.frozen 4
    have ht : W6.there d.b 5 Z4.size := fun j hj => by
      rw [← hZ4] at hj
      have hj4 : j < 4 := hj
      refine ⟨?_, hb6.frozen _⟩
      rw [hb6.cell, Array.getElem?_eq_getElem (by simp; omega)]
      rfl
    -- it is down
    obtain ⟨W8, hW8⟩ : ∃ W8, W7.setCell ⟨d.b, 4, none⟩ (.bool true) = W8 := ⟨_, rfl⟩
    have hk8 : Keep (fun k => k = d.b) W7 W8 := by rw [← hW8]; exact (Keep.refl _ _).setCell _ _ (fun _ => rfl)
    have hb8 : Blk W8 d.b 76 #[.pointer (some ⟨d.b, 0, none⟩), .slice (some ⟨d.g, 0, none⟩) s.stays.length d.cS, .map (some d.m), .int .i64 s.many, .bool true, .int .i64 0, .slice none 0 0, .int .i64 0, .int .i64 0] := by
      rw [← hW8]
      exact hb7.set_ 4 (.bool true)
    have hlen : (fellK s c).stays.length = s.stays.length := mixL_length _ _ _
    have hdk : DK W8 d (.slice none 0 0) (fellK s c) := by
      have hd8 := (hd6.keep hk7 (fun e => H.out.b_ne_g e.symm)).keep hk8 (fun e => H.out.b_ne_g e.symm)
      rw [hdone] at hd8
      refine ⟨⟨by rw [hlen]; exact List.length_replicate, by rw [hlen]; exact H.out.ok.few, ?_, fun l hl => ?_⟩, ⟨H.out.more.many, ⟨show (0 : Int) ≤ 0 from Int.le_refl _, show (0 : Int) ≤ 9223372036854775807 from by decide⟩, (show i64ok 0 from ⟨by decide, by decide⟩), (show i64ok 0 from ⟨by decide, by decide⟩), fun x hx => by cases hx⟩, by rw [hlen]; exact H.out.some_, by rw [hlen]; exact hb8, hd8, (hm6.keep hk7 (fun e => H.out.b_ne_m e.symm)).keep hk8 (fun e => H.out.b_ne_m e.symm), Head.nil _ _⟩
      · exact mixL_len H.out.ok.stay (cut_len H.out)
      · rw [(List.mem_replicate.1 hl).2]
        exact .inl rfl
    have hkw : Keep d.foot w W8 := (((hFI.keep.more (fun k _ e => .inr (.inl e))).trans hk6 (fun _ _ e => .inr (.inr e))).trans hk7 (fun _ _ e => .inl e)).trans hk8 (fun _ _ e => .inl e)
    have hK8 : W8.heap[D]? = some (.deferred (some [])) := by
      have hDlt : D < W.heap.size := (Array.getElem?_eq_some_iff.1 hK).1
      have hDf : ∀ k, d.foot k → D ≠ k := fun k hf e => by have := hlt k hf; omega
      have h6 := hk6.size
      have h7 := hk7.size
      rw [hk8.block D (by omega) (hDf _ (.inl rfl)), hk7.block D (by omega) (hDf _ (.inl rfl)), hk6.block D hDlt (hDf _ (.inr (.inr rfl)))]
      exact hK
    have hend : DK (W8.putObj D (.deferred none)) d (.slice none 0 0) (fellK s c) ∧ Keep d.foot w (W8.putObj D (.deferred none)) := by
      have hkp : Keep (fun k => k = D) W8 (W8.putObj D (.deferred none)) := keep_grown (grownBy_putObj' W8 D _) (fun k e => by injection e with e; exact e.symm)
      refine ⟨hdk.keep hkp (fun k hf e => by have := hlt k hf; omega) (fun k e => ?_), hkw.trans hkp (fun i hi e => by omega)⟩
      subst e
      rintro ⟨cs, fr, e⟩
      rw [hK8] at e
      cases e
    have HEND := Lib.hid hend
    have HM := Lib.hid hm
    have HT := Lib.hid ht
    have HZ1 := Lib.hid hZ41
    have HZI := Lib.hid hZ4i
    have HW6 := Lib.hid hW6
    have HW7 := Lib.hid hW7
    have HK8 := Lib.hid hK8
    clear hend hm ht hZ41 hZ4i hZ4l hW6 hW7 hK8 hkw hdk hlen hb8 hk8 hx7 hb7 hk7 hd6 hx6 hb6 hm6 hk6 hdone hmapW hbb hFI hS hK
    gi_wp2_with (first
      | (with_reducible refine wpListIn_clear_map rfl (.tmp 33) 74 rfl 3 80 Try.underlying74 d.m rfl es clock HM.out ?_; rw [HW6.out])
      | (with_reducible refine wpListIn_store_mid rfl 52 (.tmp 37) (.tmp 35) rfl d.b 5 Z4 rfl rfl HT.out HZI.out HZ1.out ?_; rw [HW7.out]))
    rw [Exit.noGoto_normal]
    refine ⟨by simp, .inl ⟨_, _, rfl, run_takeDeferred HK8.out, ?_⟩⟩
    exact ⟨_, results_none rfl _ _ _, rfl, HEND.out.1, HEND.out.2⟩
  case stop =>
    rintro D c pre W hD _ hf
    exact hf.elim
end
end

end Go.Proofs.Ytddhldmeknmgpaa

namespace Go.Proofs.Ytddhldmeknmgpaa
open Go.RowKit Go.Maps Go.MapKept Go.ChangeMaps

def downK (s : RSt) (c : DCrash) : RSt := if s.down then s else fellK s c
def takenK (s : RSt) (a : Int) (l : List UInt8) : RSt := { s with cache := s.cache.set a.toNat l, many := s.many + 1 }
def writeErr (s : RSt) (a : Int) (l : List UInt8) : Int := if s.down then 31 else if takes3 s a l.length then (if s.write = 1 then 31 else 0) else 30
/-- What Write leaves. -/
def writeK (s : RSt) (a : Int) (l : List UInt8) : RSt := if s.down then s else if takes3 s a l.length then (if s.write = 0 then takenK s a l else if s.write = 1 then fellK { takenK s a l with write := 0 } ⟨0, s.keep, s.torn, s.at_⟩ else { takenK s a l with write := s.write - 1 }) else s

/-- A call that answers an error, and leaves the disk in state s'. -/
def Turned (d : DAt) (kv : Value) (s' : RSt) (err : Int) (w : World) (e : Ending) (w' : World) : Prop := ∃ kv', e = .returned (.int .i64 err) ∧ DK w' d kv' s' ∧ (kv' = kv ∨ kv' = .slice none 0 0) ∧ Keep d.foot w w'

section
variable {w : World} {d : DAt} {kv : Value} {s : RSt}

theorem ddue_any (h : DK w d kv s) : Calls Try.prog 61 #[.pointer (some ⟨d.b, 0, none⟩)] w fun e w' => e = .returned (.bool (decide (s.write = 1))) ∧ DK w' d kv { s with write := if s.write = 0 then 0 else s.write - 1 } ∧ Keep (fun k => k = d.b) w w' := by
  have c5 : w.cell? ⟨d.b, 5, none⟩ = some (.int .i64 s.write) := h.blk.cell 5
  have f5 := h.blk.frozen 5
  obtain ⟨w0, w1⟩ := h.more.write
  have hk5 : Keep (fun k => k = d.b) w (w.setCell ⟨d.b, 5, none⟩ (.int .i64 (s.write - 1))) := (Keep.refl _ _).setCell _ _ (fun _ => rfl)
  have hb5 := h.blk.set_ 5 (.int .i64 (s.write - 1))
  by_cases hz : s.write = 0
  · have hs : { s with write := if s.write = 0 then 0 else s.write - 1 } = s := by rw [if_pos hz, ← hz]
    rw [hs, decide_eq_false (by rw [hz]; decide)]
    rw [hz] at c5
    have H := Lib.hid h
    clear h hs hz hk5 hb5 w0 w1
    go_enter Try.func61, Try.ntmps61
    go_wp2
    go_ret
    exact ⟨rfl, H.out, Keep.refl _ _⟩
  · have hne : (s.write == 0) = false := by rw [beq_eq_false_iff_ne]; exact hz
    rw [if_neg hz]
    have HF := Lib.hid (And.intro (h.self (s' := { s with write := s.write - 1 }) hk5 rfl rfl ⟨h.more.many, ⟨show 0 ≤ s.write - 1 by omega, show s.write - 1 ≤ 9223372036854775807 by omega⟩, h.more.torn, h.more.at_, h.more.keep⟩ hb5 (h.kHead.keep hk5 (fun k e => by subst e; exact (h.foot_typ _ (.inl rfl)).1))) hk5)
    generalize hwr : s.write = W at *
    clear hwr
    by_cases h1 : W = 1
    · subst h1
      clear h hz hk5 hb5 w0 w1
      rw [show (1 : Int) - 1 = 0 from rfl] at HF
      go_enter Try.func61, Try.ntmps61
      go_wp2
      go_ret
      exact ⟨rfl, HF.out.1, HF.out.2⟩
    · have hne1 : (W - 1 == 0) = false := by rw [beq_eq_false_iff_ne]; omega
      rw [decide_eq_false h1]
      have hp : 1 < W := by omega
      clear h hz hk5 hb5 h1
      go_enter Try.func61, Try.ntmps61
      go_wp2
      go_ret
      exact ⟨rfl, HF.out.1, HF.out.2⟩
end

end Go.Proofs.Ytddhldmeknmgpaa

namespace Go.Proofs.Ytddhldmeknmgpaa
open Go.RowKit Go.Maps Go.MapKept Go.ChangeMaps

section
variable {w : World} {d : DAt} {kv : Value} {s : RSt}

theorem key_i64 (k : Nat) (hk : k < 4096) : keyOf Try.prog 3 (.int .i64 (k : Int)) = some (.int .i64 (k : Int)) := keyOf_int_mk Try.underlying3 (by
  have h1 : IntKind.i64.min = -9223372036854775808 := rfl
  have h2 : IntKind.i64.max = 9223372036854775807 := rfl
  simp only [Lit.wf, Bool.and_eq_true, decide_eq_true_eq]
  omega)

theorem DK.crash_range (h : DK w d kv s) : w.rangeAt d.b 5 [.int .i64 s.write, kv, .int .i64 s.torn, .int .i64 s.at_] := fun j v hv => by
  have hb := h.blk.cell (5 + j)
  rw [hb]
  rcases j with _ | _ | _ | _ | j
  · simpa using hv
  · simpa using hv
  · simpa using hv
  · simpa using hv
  · simp at hv
theorem Head.sl {t : TypeId} {xs : List Value} {A : Option Addr} {n c : Nat} (h : Head w t xs (.slice A n c)) : Sl w w.heap.size A c xs := by
  obtain ⟨A', c', e, h1, h2, h3, _⟩ := h
  injection e with e1 e2 e3
  subst e1 e3
  exact ⟨h3, h1, h2⟩
theorem infoCrash : (Try.prog.info? 52).map (·.size) = some 4 := by kernel_rfl

set_option maxRecDepth 100000 in
set_option maxHeartbeats 4000000 in
theorem dwrite_any (a : Int) (A : Option Addr) (cb : Nat) (l : List UInt8) (h : DK w d kv s) (hr : Reads w w.heap.size 1 A l.length (l.map bv)) (hmany : s.many < 9223372036854775807) :
    Calls Try.prog 38 #[.pointer (some ⟨d.b, 0, none⟩), .int .i64 a, .slice A l.length cb] w (Turned d kv (writeK s a l) (writeErr s a l) w) := by
  have HU := Lib.hid (dusable_any h)
  have HT := Lib.hid (dtakes_any a A l.length cb h)
  cases hd : s.down
  · rw [hd] at HU
    cases ht : takes3 s a l.length
    · have hs : Hid (writeK s a l = s) := Lib.hid (by unfold writeK; rw [if_neg (by rw [hd]; decide), if_neg (by rw [ht]; decide)])
      have he : writeErr s a l = 30 := by unfold writeErr; rw [if_neg (by rw [hd]; decide), if_neg (by rw [ht]; decide)]
      rw [ht] at HT
      rw [he]
      have H := Lib.hid h
      clear h hr hd ht he
      go_enter Try.func38, Try.ntmps38
      go_wp2_with (first
        | (go_at_call 42; refine HU.out.mono ?_; rintro e _ ⟨rfl, rfl⟩)
        | (go_at_call 46; refine HT.out.mono ?_; rintro e _ ⟨rfl, rfl⟩))
      go_ret
      exact ⟨_, rfl, by rw [hs.out]; exact H.out, .inl rfl, Keep.refl _ _⟩
    · have htt := ht
      unfold takes3 at htt
      simp only [Bool.and_eq_true, decide_eq_true_eq] at htt
      have hin : 0 ≤ a ∧ a < (s.stays.length : Int) := of_decide_eq_true htt.1
      obtain ⟨k, rfl⟩ := Int.eq_ofNat_of_zero_le hin.1
      have hk : k < s.stays.length := by omega
      have h128 := htt.2
      rw [ht] at HT
      have hs : Hid (writeK s (k : Int) l = if s.write = 0 then takenK s k l else if s.write = 1 then fellK { takenK s k l with write := 0 } ⟨0, s.keep, s.torn, s.at_⟩ else { takenK s k l with write := s.write - 1 }) := Lib.hid (by unfold writeK; rw [if_neg (by rw [hd]; decide), if_pos ht])
      have he : Hid (writeErr s (k : Int) l = if s.write = 1 then 31 else 0) := Lib.hid (by unfold writeErr; rw [if_neg (by rw [hd]; decide), if_pos ht])
      obtain ⟨ad, rfl, hadB, hsrc⟩ := hr.2 (by omega)
      obtain ⟨WE, hWE⟩ : ∃ WE, writeErr s (k : Int) l = WE := ⟨_, rfl⟩
      obtain ⟨WS, hWS⟩ : ∃ WS, writeK s (k : Int) l = WS := ⟨_, rfl⟩
      rw [hWE, hWS]
      rw [hWE] at he
      rw [hWS] at hs
      clear hWE hWS
      have hz := zeroSec
      obtain ⟨Z, hZ⟩ : ∃ Z, ((List.replicate 128 0).map bv).toArray = Z := ⟨_, rfl⟩
      have hzv : secV (List.replicate 128 0) = .agg Z := by rw [← hZ]; rfl
      have hZs : Z.size = 128 := by rw [← hZ]; simp
      rw [hzv] at hz
      obtain ⟨Y, hY⟩ : ∃ Y, l.map bv = Y := ⟨_, rfl⟩
      have hYl : Y.length = 128 := by rw [← hY, List.length_map]; exact h128
      have hY1 : ∀ u ∈ Y, u.oneCell' = true := by rw [← hY]; exact bv_one l
      rw [hY] at hsrc
      obtain ⟨X, hX⟩ : ∃ X, Y.toArray = X := ⟨_, rfl⟩
      have hNC : (Z.toList.take 0 ++ (Y ++ Z.toList.drop (0 + Y.length))).toArray = X := by
        rw [← hX, List.take_zero, List.nil_append, List.drop_of_length_le (by rw [Array.length_toList, hZs, hYl]; decide), List.append_nil]
      have hA := heap_alloc_new w (.cells Z 80)
      have hsrc1 : ∀ j u, Y[j]? = some u → (w.alloc (.cells Z 80)).cell? (ad.add j) = some u := fun j u hu => (World.cell?_alloc_lt w _ _ (by rw [block_of_add]; exact hadB)).trans (hsrc j u hu)
      obtain ⟨W2, hW2⟩ : ∃ W2, (w.alloc (.cells Z 80)).setRow w.heap.size X = W2 := ⟨_, rfl⟩
      have hB2 : Below w.heap.size w W2 := by rw [← hW2]; exact below_setRow ((Below.refl _ w).alloc (Nat.le_refl _) _) (Nat.le_refl _) X
      have hH2 : W2.heap[w.heap.size]? = some (.cells Y.toArray 80 (0, 0)) := by rw [hX, ← hW2]; exact setRow_heap _ _ _ _ _ _ hA
      have h2 : DK W2 d kv s := h.below hB2
      have e2 : W2.drew.cell? ⟨d.b, 2, none⟩ = some (.map (some d.m)) := h2.blk.cell 2
      have hR2 : W2.drew.rangeAt w.heap.size 0 Y := mk_setRow_range (w := W2.drew) hH2
      obtain ⟨D, hown, hC⟩ := h2.cac
      have hown2 : W2.drew.ownsMap Try.prog 3 secR d.m 4096 D := hown
      have hfew := h.ok.few
      have hkey := key_i64 k (by omega)
      have hval : secR (.agg X) = some (.lit (.string l), []) := by
        have := secR_mk h128
        rw [← hX, ← hY]
        exact this
      have hcl : k < s.cache.length := by rw [h.ok.same]; exact hk
      have HFIT : Hid (0 + Y.length ≤ Z.size) := Lib.hid (by rw [hYl, hZs]; decide)
      have HSRC := Lib.hid hsrc1
      have HYL := Lib.hid hYl
      have HY1 := Lib.hid hY1
      have HNC := Lib.hid hNC
      have HW2 := Lib.hid hW2
      have HA := Lib.hid hA
      have HR2 := Lib.hid hR2
      have HOWN := Lib.hid hown2
      have HC := Lib.hid hC
      have HKEY := Lib.hid hkey
      have HVAL := Lib.hid hval
      have HXY := Lib.hid hX
      have H2 := Lib.hid h2
      have HB2 := Lib.hid hB2
      have H128 := Lib.hid h128
      have HM0 := Lib.hid h.more.many
      rw [h128] at HT ⊢
      clear h hr hd ht htt hin hsrc hZ hzv hZs hY hYl hY1 hNC hsrc1 hW2 hA hH2 hR2 hown2 hown hC hkey hval hX hB2 h128 h2
      go_enter Try.func38, Try.ntmps38
      go_wp2_with (first
        | (go_at_call 42; refine HU.out.mono ?_; rintro e _ ⟨rfl, rfl⟩)
        | (go_at_call 46; refine HT.out.mono ?_; rintro e _ ⟨rfl, rfl⟩)
        | (with_reducible refine wpList_copy_own rfl (.tmp 19) (.tmp 20) 23 23 rfl 5 Try.underlying23 sizeU8 w.heap.size 0 128 128 ad 128 cb rfl rfl Z 80 HA.out Y (HYL.out.trans (by decide)) HSRC.out HFIT.out HY1.out ?_; rw [HNC.out, HW2.out]))
      go_frame
      refine wp_region_still_tail 6 (by kernel_rfl) (by kernel_rfl) ?_
      simp only [List.take_succ_cons, List.take_zero, List.drop_succ_cons, List.drop_zero]
      still_step
      still_step
      still_step
      still_step
      still_step
      refine wpStill_load_mid rfl 80 (.tmp 8) rfl w.heap.size 0 rfl Y _ HR2.out Try.underlying80 rfl (by rw [HYL.out]; exact sizeSec) ?_
      rw [HXY.out]
      go_frame
      refine wpStill_nil ?_
      change wpList _ _ _ _ _ W2.drew
      refine wpList_mapUpdate_own _ rfl (.tmp 25) (.tmp 26) (.tmp 27) 74 rfl 3 80 (int_keyed Try.underlying3) Try.underlying74 secR d.m 4096 D rfl HOWN.out (by unfold maxLen; omega) (.int .i64 (k : Int)) (.agg X) (.int .i64 (k : Int)) rfl rfl HKEY.out (.lit (.string l)) [] HVAL.out ?_
      intro W3 hown3 hg3
      have hk3' : Keep (fun i => i = d.m) W2.drew W3 := keep_grown hg3 (fun k e => by injection e with e; exact e.symm)
      have hk3 : Keep (fun i => i = d.m) W2 W3 := ⟨hk3'.os, hk3'.tape, hk3'.output, hk3'.size, hk3'.block⟩
      have hC3 : CacheIs _ (s.cache.set k l) := HC.out.put HOWN.out (l := l) (by rw [H128.out]; decide) hcl
      have hmap3 : MapOf W3 d.m (s.cache.set k l) := ⟨_, ownsMap_tight hown3 (by
        have := hC3.size hown3
        rw [List.length_set, H2.out.ok.same] at this
        omega), hC3⟩
      have h3 : DK W3 d kv { s with cache := s.cache.set k l } := H2.out.putC hk3 hmap3 List.length_set (mem_set_len2 H2.out.ok.wait (.inr H128.out))
      have e33 : W3.cell? ⟨d.b, 3, none⟩ = some (.int .i64 s.many) := h3.blk.cell 3
      have f33 := h3.blk.frozen 3
      have hm0 := HM0.out.1
      obtain ⟨W4, hW4⟩ : ∃ W4, W3.setCell ⟨d.b, 3, none⟩ (.int .i64 (s.many + 1)) = W4 := ⟨_, rfl⟩
      have hk4 : Keep (fun i => i = d.b) W3 W4 := by rw [← hW4]; exact (Keep.refl _ _).setCell _ _ (fun _ => rfl)
      have h4 : DK W4 d kv (takenK s (k : Int) l) := by
        refine h3.self hk4 rfl (by unfold takenK; rw [Int.toNat_natCast]) ⟨?_, h3.more.write, h3.more.torn, h3.more.at_, h3.more.keep⟩ ?_ (h3.kHead.keep hk4 (fun i e => by subst e; exact (h3.foot_typ _ (.inl rfl)).1))
        · unfold takenK
          show 0 ≤ s.many + 1 ∧ s.many + 1 ≤ 9223372036854775807
          omega
        · rw [← hW4]
          exact h3.blk.set_ 3 (.int .i64 (s.many + 1))
      have hkw4 : Keep d.foot w W4 := ((Keep.of_below HB2.out).trans hk3 (fun _ _ e => .inr (.inr e))).trans hk4 (fun _ _ e => .inl e)
      have HD4 := Lib.hid (ddue_any h4)
      have HKW4 := Lib.hid hkw4
      have hwr : (takenK s (k : Int) l).write = s.write := rfl
      rw [hwr] at HD4
      clear hk3 hk3' hC3 hmap3 h3 hk4 h4 hkw4 hown3 hg3 hwr
      by_cases hw1 : s.write = 1
      · rw [if_pos hw1] at he
        rw [if_neg (by rw [hw1]; decide), if_pos hw1] at hs
        rw [decide_eq_true hw1, hw1, if_neg (by decide)] at HD4
        have HS := Lib.hid hs
        obtain rfl : WE = 31 := he.out
        clear hw1 hs he
        obtain ⟨KA, Kc, ekv, kl1, kl2, krd, ktp⟩ := H2.out.kHead
        rw [List.length_map] at ekv
        clear kl1 kl2 krd ktp
        subst ekv
        have HI4 : Hid ((Try.prog.info? 52).map (·.size) = some ([.int .i64 0, .slice KA s.keep.length Kc, .int .i64 s.torn, .int .i64 s.at_] : List Value).length) := Lib.hid infoCrash
        go_wp2_with (first
          | (go_at_call 61; refine HD4.out.mono ?_; rintro e W5 ⟨rfl, hdk5, hkp5⟩; have HRG : Hid (W5.rangeAt d.b 5 [.int .i64 0, .slice KA s.keep.length Kc, .int .i64 s.torn, .int .i64 s.at_]) := Lib.hid hdk5.crash_range; have hfl := dfall_any ⟨0, s.keep, s.torn, s.at_⟩ KA Kc hdk5 hdk5.kHead.sl; dsimp only at hfl; have HFL := Lib.hid hfl; clear hfl; have HKP5 := Lib.hid hkp5; clear hdk5 hkp5)
          | (with_reducible refine wpList_load_mid rfl 52 (.tmp 40) rfl d.b 5 rfl [.int .i64 0, .slice KA s.keep.length Kc, .int .i64 s.torn, .int .i64 s.at_] _ HRG.out Try.underlying52 rfl HI4.out ?_)
          | (go_at_call 62; refine HFL.out.mono ?_; rintro e W6 ⟨rfl, hdk6, hkp6⟩; have HDK6 := Lib.hid hdk6; have HKP6 := Lib.hid hkp6; clear hdk6 hkp6))
        go_ret
        exact ⟨_, rfl, by rw [HS.out.out]; exact HDK6.out, .inr rfl, (HKW4.out.trans HKP5.out (fun _ _ e => .inl e)).trans HKP6.out (fun _ _ e => e)⟩
      · rw [if_neg hw1] at he
        obtain rfl : WE = 0 := he.out
        rw [decide_eq_false hw1] at HD4
        have hs2 : Hid (WS = { takenK s (k : Int) l with write := if s.write = 0 then 0 else s.write - 1 }) := Lib.hid (by
          rw [hs.out]
          by_cases h0 : s.write = 0
          · rw [if_pos h0, if_pos h0]
            unfold takenK
            rw [← h0]
          · rw [if_neg h0, if_neg hw1, if_neg h0])
        clear hs he hw1
        go_wp2_with (go_at_call 61; refine HD4.out.mono ?_; rintro e W5 ⟨rfl, hdk5, hkp5⟩; have HDK5 := Lib.hid hdk5; have HKP5 := Lib.hid hkp5; clear hdk5 hkp5)
        go_ret
        exact ⟨_, rfl, by rw [hs2.out]; exact HDK5.out, .inl rfl, HKW4.out.trans HKP5.out (fun _ _ e => .inl e)⟩
  · have hs : Hid (writeK s a l = s) := Lib.hid (by unfold writeK; rw [if_pos hd])
    have he : writeErr s a l = 31 := by unfold writeErr; rw [if_pos hd]
    rw [hd] at HU
    rw [he]
    have H := Lib.hid h
    clear h hr hd he HT
    go_enter Try.func38, Try.ntmps38
    go_wp2_with (go_at_call 42; refine HU.out.mono ?_; rintro e _ ⟨rfl, rfl⟩)
    go_ret
    exact ⟨_, rfl, by rw [hs.out]; exact H.out, .inl rfl, Keep.refl _ _⟩

theorem dwrite_dead (p : Option Addr) (a : Int) (A : Option Addr) (n c : Nat) (w : World) (h : Dead w p) : Calls Try.prog 38 #[.pointer p, .int .i64 a, .slice A n c] w fun e w' => e = .returned (.int .i64 1) ∧ w = w' := by
  have HV := Lib.hid (dusable_dead p w h)
  clear h
  go_enter Try.func38, Try.ntmps38
  go_wp2_with (go_at_call 42; refine HV.out.mono ?_; rintro e _ ⟨rfl, rfl⟩)
  go_ret
  exact ⟨rfl, rfl⟩
end

end Go.Proofs.Ytddhldmeknmgpaa

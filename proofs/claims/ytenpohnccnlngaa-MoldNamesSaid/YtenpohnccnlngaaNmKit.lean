/-
  Closed statements over arrays: a region that draws nothing walked as one that draws; boxes of arrays in a bundle; literals as arrays of the call's own.
-/
import Derived.Test.YtenpohnccnlngaaTuAll3
import Derived.Test.YtenpohnccnlngaaArRunes
import Derived.Test.YtenpohnccnlngaaMoBoxH
namespace Go.Proofs.Ytenpohnccnlngaa
section
variable {P : Program} {ops : Array Oper} {Q : Exit → Act → World → Prop}
/-- A region that draws nothing, operation by operation: its own order is one of those. -/
theorem wp_region_offT {id : Nat} {a0 : Act} {w : World} (S : (Nat → Bool) → Array Value → World → Prop) (R : (Nat → Bool) → Nat → Value → World → Prop) (hr : Region.linearise.go .any ops ops.size 0 (Array.replicate ops.size false) [] = List.range ops.size) (m : Nat) (hz : a0.tmps.size = m) (ht : anyText .any ops m = true) (h0 : S (fun _ => false) a0.tmps w)
    (hs : ∀ i, i < ops.size → DoneStepT P .any ops Q S R a0 i)
    (he : ∀ done a w, S done a.tmps w → a.tmps.size = m → a.defers = a0.defers → (∀ t, outer ops t = true → a.tmps[t]? = a0.tmps[t]?) → (∀ j d, dstOf ops j = some d → ∃ v, a.tmps[d]? = some v ∧ R done j v w) → (∀ i, i < ops.size → done i = true) → Q .normal a w) :
    (Code.region id ops false).wp P Q a0 w := by
  refine wp_region ?_
  subst hz
  rw [← hr]
  have hz0 : (fun k => (Array.replicate ops.size false).getD k false) = fun _ => false := by
    funext k
    by_cases hk : k < ops.size <;> simp [hk]
  refine wpAny_sound ops.size 0 _ a0 _ (wpDoneT_steps ht hs he ops.size _ a0 _ (by simp) (by simp) ⟨by rw [hz0]; exact h0, rfl, rfl, fun _ _ => rfl, fun j hl => ?_, fun j d _ hl => ?_⟩)
  · exfalso
    have : (Array.replicate ops.size false).getD j false = false := by
      by_cases hj : j < ops.size <;> simp [hj]
    rw [this] at hl
    cases hl
  exfalso
  have : (Array.replicate ops.size false).getD j false = false := by
    by_cases hj : j < ops.size <;> simp [hj]
  rw [this] at hl
  cases hl

/-- .. and what stands behind it goes on over a frame that is written out. -/
theorem wp_region_offT_on {id : Nat} {a0 : Act} {w : World} (S : (Nat → Bool) → Array Value → World → Prop) (R : (Nat → Bool) → Nat → Value → World → Prop) (hr : Region.linearise.go .any ops ops.size 0 (Array.replicate ops.size false) [] = List.range ops.size) (m : Nat) (hz : a0.tmps.size = m) (ht : anyText .any ops m = true) (h0 : S (fun _ => false) a0.tmps w)
    (hs : ∀ i, i < ops.size → DoneStepT P .any ops Q S R a0 i)
    (he : ∀ (done : Nat → Bool) (f : Tmp → Value) (w : World), S done (putAll ops.toList f a0).tmps w → (∀ j d, dstOf ops j = some d → R done j (f d) w) → (∀ i, i < ops.size → done i = true) → Q .normal (putAll ops.toList f a0) w) :
    (Code.region id ops false).wp P Q a0 w := by
  refine wp_region_offT S R hr m hz ht h0 hs fun done a w hS hsz hd ho hn hall => ?_
  have h2 : putAll ops.toList (fun d => a.tmps.getD d undef) a0 = a := by
    have hsz' : (putAll ops.toList (fun d => a.tmps.getD d undef) a0).tmps.size = a.tmps.size := by rw [putAll_size, hsz, hz]
    have ht' : (putAll ops.toList (fun d => a.tmps.getD d undef) a0).tmps = a.tmps := by
      apply Array.ext_getElem?
      intro t
      by_cases hlt : t < m
      · have hlt' : t < a0.tmps.size := by rw [hz]; exact hlt
        rw [putAll_at ops.toList _ a0 t hlt']
        cases hany : ops.toList.any fun o => o.dst == some t with
        | true =>
          have : t < a.tmps.size := by omega
          simp [this]
        | false =>
          rw [if_neg (by simp), ← ho t ?_]
          unfold outer
          rw [← Array.all_toList, List.all_eq_true]
          intro o hm'
          have := List.any_eq_false.1 hany o hm'
          simpa [bne] using this
      · rw [Array.getElem?_eq_none (by rw [hsz', hsz]; omega), Array.getElem?_eq_none (by rw [hsz]; omega)]
    have hd' : (putAll ops.toList (fun d => a.tmps.getD d undef) a0).defers = a.defers := by rw [putAll_defers, hd]
    cases a
    cases hh : putAll ops.toList _ a0
    rw [hh] at ht' hd'
    simp only at ht' hd'
    rw [ht', hd']
  have h1 := he done (fun d => a.tmps.getD d undef) w (by rw [h2]; exact hS) (fun j d hj => by
    obtain ⟨v, hv, hR⟩ := hn j d hj
    have : a.tmps.getD d undef = v := by simp [hv]
    rw [this]
    exact hR) hall
  rw [h2] at h1
  exact h1

end
end Go.Proofs.Ytenpohnccnlngaa

namespace Go.Proofs.Ytenpohnccnlngaa.tu
open Go.RowKit Go.Proofs.Ytenpohnccnlngaa.arr Go.Proofs.Ytenpohnccnlngaa.mo

/-- Boxes of arrays. -/
def Bxs (W : World) (L : List (Nat × AV × AP)) : Prop := ∀ (i g : Nat) (X : AV) (p : AP), L[i]? = some (g, X, p) → BoxA W g X p
theorem Bxs.nil (W : World) : Bxs W [] := fun i g X p h => by simp at h
theorem Bxs.up {W W' : World} {L : List (Nat × AV × AP)} (h : Bxs W L) (hb : Below W.heap.size W W') : Bxs W' L := fun i g X p e => (h i g X p e).up hb
theorem Bxs.add {W : World} {L : List (Nat × AV × AP)} (h : Bxs W L) {g : Nat} {X : AV} {p : AP} (b : BoxA W g X p) : Bxs W (L ++ [(g, X, p)]) := fun i g' X' p' e => by
  by_cases hi : i < L.length
  · rw [List.getElem?_append_left hi] at e
    exact h i _ _ _ e
  · rw [List.getElem?_append_right (by omega)] at e
    rcases hj : i - L.length with _ | j
    · rw [hj] at e
      injection e with e
      injection e with e1 e
      injection e with e2 e3
      subst e1 e2 e3
      exact b
    · rw [hj] at e
      simp at e
theorem giveE_to {X Y : AV} {E F : Int} {w w' : World} {e : Ending} (h : GiveE X E w e w') (hX : X = Y) (hE : E = F) : GiveE Y F w e w' := by
  subst hX
  subst hE
  exact h
theorem own_of_blk {W : World} {g B n : Nat} {t : TypeId} {xs : List Value} (h : Blk W g t xs.toArray) (hn : xs.length = n) (hB : B ≤ g) (hm : n ≤ maxLen) : W.ownsRow B t 1 (.slice (some ⟨g, 0, none⟩) n n) n xs :=
  ⟨by omega, .inr ⟨g, n, xs.toArray, rfl, hB, h, Nat.le_refl _, hm, by simp; omega, by rw [Nat.mul_one]; show xs.take n = xs; exact List.take_of_length_le (by omega)⟩⟩
/-- A literal list of a region: numbers of 64 bits, and of int. -/
def slo (w0 : World) (n : Nat) (xs : Array Value) : Value → World → Prop := fun v W => ∃ g, v = .slice (some ⟨g, 0, none⟩) n n ∧ w0.heap.size ≤ g ∧ Blk W g 2 xs
def sio (w0 : World) (n : Nat) (xs : Array Value) : Value → World → Prop := fun v W => ∃ g, v = .slice (some ⟨g, 0, none⟩) n n ∧ w0.heap.size ≤ g ∧ Blk W g 3 xs
theorem blk_off {W : World} {g k : Nat} {t : TypeId} {cs : Array Value} {u0 u1 u2 : Value} (x y z : Value) (ht : t ≠ 25) (hg : Blk W g 25 #[u0, u1, u2]) (h : Blk W k t cs) : Blk (((W.setCell ⟨g, 0, none⟩ x).setCell ⟨g, 1, none⟩ y).setCell ⟨g, 2, none⟩ z) k t cs :=
  (arkeep_three W g x y z).blk h (fun e => by
    subst e
    unfold Blk at h hg
    rw [hg] at h
    injection h with h
    injection h with _ h
    exact ht h.symm)
theorem slo_stk (w0 : World) (n : Nat) (xs : Array Value) : stk2 w0 (slo w0 n xs) := ⟨fun v W W' hb h => by
    obtain ⟨g, h1, h2, h3⟩ := h
    exact ⟨g, h1, h2, blk_up h3 hb⟩, fun v W g u0 u1 u2 x y z _ hg h => by
    obtain ⟨k, h1, h2, h3⟩ := h
    exact ⟨k, h1, h2, blk_off x y z (by decide) hg h3⟩⟩
theorem sio_stk (w0 : World) (n : Nat) (xs : Array Value) : stk2 w0 (sio w0 n xs) := ⟨fun v W W' hb h => by
    obtain ⟨g, h1, h2, h3⟩ := h
    exact ⟨g, h1, h2, blk_up h3 hb⟩, fun v W g u0 u1 u2 x y z _ hg h => by
    obtain ⟨k, h1, h2, h3⟩ := h
    exact ⟨k, h1, h2, blk_off x y z (by decide) hg h3⟩⟩
/-- An array that is made of a literal list: no shape, or one that is a literal, too. -/
theorem own_lit (k : Int) (l : List Int) (g n B : Nat) (W : World) (hn : l.length = n) (hB : B ≤ g) (hm : n ≤ 1000000) (h : Blk W g 2 (l.map iv).toArray) : AOwn B W ⟨k, [], l⟩ ⟨none, 0, some ⟨g, 0, none⟩, n⟩ := by
  subst hn
  exact ⟨World.ownsRow_nil _ _ _ _, own_of_blk h (by rw [List.length_map]) hB (by show l.length ≤ maxLen; unfold maxLen; omega)⟩
theorem own_lit2 (k : Int) (s l : List Int) (gs g m n B : Nat) (W : World) (hm : s.length = m) (hn : l.length = n) (hBs : B ≤ gs) (hB : B ≤ g) (hmm : m ≤ 1000000) (hnm : n ≤ 1000000) (hs : Blk W gs 3 (s.map iv).toArray) (h : Blk W g 2 (l.map iv).toArray) : AOwn B W ⟨k, s, l⟩ ⟨some ⟨gs, 0, none⟩, m, some ⟨g, 0, none⟩, n⟩ := by
  subst hm
  subst hn
  exact ⟨own_of_blk hs (by rw [List.length_map]) hBs (by show s.length ≤ maxLen; unfold maxLen; omega), own_of_blk h (by rw [List.length_map]) hB (by show l.length ≤ maxLen; unfold maxLen; omega)⟩
theorem own_none (B : Nat) (W : World) : AOwn B W noA ⟨none, 0, none, 0⟩ := ⟨World.ownsRow_nil _ _ _ _, World.ownsRow_nil _ _ _ _⟩
abbrev GiveO (X : AV) (W : World) (e : Ending) (w' : World) : Prop := ∃ r : AP, e = .returned (.agg (arC X r)) ∧ AOwn W.heap.size w' X r ∧ Below W.heap.size W w'
theorem vec_lit (l : List Int) (hl : l.length ≤ 100000) (A : Option Addr) (n c : Nat) (W : World) (hn : l.length = n) (hr : Reads W W.heap.size 1 A n (l.map iv)) : Calls Try.prog 18 #[.slice A n c] W (GiveO ⟨1, [(n : Int)], l⟩ W) := by
  refine (arvector_any A n c l W hn hr (by omega)).mono ?_
  rintro e w' ⟨v, rfl, r, rfl, o, b⟩
  exact ⟨r, rfl, o, b⟩
theorem sca_lit (n : Int) (W : World) : Calls Try.prog 16 #[.int .i64 n] W (GiveO ⟨1, [], [n]⟩ W) := by
  refine (arscalar_any n W).mono ?_
  rintro e w' ⟨v, rfl, r, rfl, o, b⟩
  exact ⟨r, rfl, o, b⟩
theorem chr_lit (s : ByteArray) (l : List Int) (hs : s.size ≤ 100000) (h : rn s s.size 0 = l) (n : Int) (hn : (l.length : Int) = n) (W : World) : Calls Try.prog 17 #[.string s] W (GiveO ⟨2, [n], l⟩ W) := by
  refine (arrunes_any s W hs).mono ?_
  rintro e w' ⟨v, rfl, r, rfl, o, b⟩
  rw [h, hn] at o ⊢
  exact ⟨r, rfl, o, b⟩
set_option maxRecDepth 100000 in
set_option maxHeartbeats 4000000 in
theorem mat13 (l : List Int) (k : Nat) (hk : 0 < k) (hk2 : k ≤ 1000000) (hl : l.length ≤ 1000000) (g n : Nat) (w : World) (hn : l.length = n) (B : Nat) (hB : B ≤ g) (hBw : B ≤ w.heap.size) (hg : Blk w g 2 (l.map iv).toArray) :
    Calls Try.prog 19 #[.int .i64 (k : Int), .slice (some ⟨g, 0, none⟩) n n] w fun e w' => ∃ r : AP, e = .returned (.agg (arC ⟨1, [((l.length / k : Nat) : Int), (k : Int)], l⟩ r)) ∧ AOwn B w' ⟨1, [((l.length / k : Nat) : Int), (k : Int)], l⟩ r ∧ Below w.heap.size w w' := by
  have hx := Blk.new w 25 #[.int .i64 0, .slice none 0 0, .slice none 0 0]
  have hb := albel w (.cells #[.int .i64 0, .slice none 0 0, .slice none 0 0] 25)
  have hd : (n : Int).tdiv (k : Int) = ((n / k : Nat) : Int) := (Int.ofNat_tdiv n k).symm
  have hdle : n / k ≤ n := Nat.div_le_self n k
  rw [hn] at hl ⊢
  have HN := Lib.hid hn
  have HG := Lib.hid hg
  obtain ⟨d, hdd⟩ : ∃ d, n / k = d := ⟨_, rfl⟩
  rw [hdd] at hd hdle ⊢
  have wd : IntKind.i64.wrap (d : Int) = (d : Int) := by rw [IntKind.wrap_i64]; omega
  have hk0 : ¬ k = 0 := by omega
  obtain ⟨w1, hw1⟩ : ∃ w1, w.alloc (.cells #[.int .i64 0, .slice none 0 0, .slice none 0 0] 25) = w1 := ⟨_, rfl⟩
  rw [hw1] at hx hb
  have hx1 := hx.alloc (.cells #[.int .i64 (d : Int), .int .i64 (k : Int)] 3)
  have hb1 := hb.alloc hb.size (.cells #[.int .i64 (d : Int), .int .i64 (k : Int)] 3)
  have ho := Blk.new w1 3 #[.int .i64 (d : Int), .int .i64 (k : Int)]
  have hsz : w1.heap.size = w.heap.size + 1 := by rw [← hw1]; simp
  have x0 := hx1.cell 0
  have x1 := hx1.cell 1
  have x2 := hx1.cell 2
  have f0 := hx1.frozen 0
  have f1 := hx1.frozen 1
  have f2 := hx1.frozen 2
  have HX := Lib.hid hx1
  have HB := Lib.hid hb1
  have HO := Lib.hid ho
  have HSZ := Lib.hid hsz
  clear hx hb hx1 hb1 ho hg hn hsz hdd
  go_enter Try.func19, Try.ntmps19
  go_wp2
  refine bodyPost_ret (results_arr rfl rfl (arblk_three _ _ _ HX.out)) rfl ?_
  have hk3 := arkeep_three (w1.alloc (.cells #[.int .i64 (d : Int), .int .i64 (k : Int)] 3)) w.heap.size (.int .i64 1) (.slice (some ⟨w1.heap.size, 0, none⟩) 2 2) (.slice (some ⟨g, 0, none⟩) n n)
  have hfin := HB.out.trans (hk3.below HB.out.size (fun i hi e => by omega))
  have ho := hk3.blk HO.out (by have := HSZ.out; omega)
  have hgf : Blk _ g 2 (l.map iv).toArray := HG.out.below hfin HG.out.lt
  refine ⟨⟨some ⟨w1.heap.size, 0, none⟩, 2, some ⟨g, 0, none⟩, n⟩, (by unfold arC; rw [HN.out]; rfl), ⟨own_of_blk ho rfl (by have := HSZ.out; omega) (show 2 ≤ maxLen by decide), ?_⟩, hfin⟩
  show World.ownsRow _ B 2 1 (.slice (some ⟨g, 0, none⟩) l.length n) l.length (l.map iv)
  rw [HN.out]
  exact own_of_blk hgf (by rw [List.length_map]; exact HN.out) hB (by unfold maxLen; omega)
set_option maxRecDepth 100000 in
set_option maxHeartbeats 4000000 in
theorem mat14 (l : List Int) (k : Nat) (hk : 0 < k) (hk2 : k ≤ 1000000) (hl : l.length ≤ 1000000) (g n : Nat) (w : World) (hn : l.length = n) (B : Nat) (hB : B ≤ g) (hBw : B ≤ w.heap.size) (hg : Blk w g 2 (l.map iv).toArray) :
    Calls Try.prog 37 #[.int .i64 (k : Int), .slice (some ⟨g, 0, none⟩) n n] w fun e w' => ∃ r : AP, e = .returned (.agg (arC ⟨1, [((l.length / k : Nat) : Int), (k : Int)], l⟩ r)) ∧ AOwn B w' ⟨1, [((l.length / k : Nat) : Int), (k : Int)], l⟩ r ∧ Below w.heap.size w w' := by
  have hx := Blk.new w 25 #[.int .i64 0, .slice none 0 0, .slice none 0 0]
  have hb := albel w (.cells #[.int .i64 0, .slice none 0 0, .slice none 0 0] 25)
  have hd : (n : Int).tdiv (k : Int) = ((n / k : Nat) : Int) := (Int.ofNat_tdiv n k).symm
  have hdle : n / k ≤ n := Nat.div_le_self n k
  rw [hn] at hl ⊢
  have HN := Lib.hid hn
  have HG := Lib.hid hg
  obtain ⟨d, hdd⟩ : ∃ d, n / k = d := ⟨_, rfl⟩
  rw [hdd] at hd hdle ⊢
  have wd : IntKind.i64.wrap (d : Int) = (d : Int) := by rw [IntKind.wrap_i64]; omega
  have hk0 : ¬ k = 0 := by omega
  obtain ⟨w1, hw1⟩ : ∃ w1, w.alloc (.cells #[.int .i64 0, .slice none 0 0, .slice none 0 0] 25) = w1 := ⟨_, rfl⟩
  rw [hw1] at hx hb
  have hx1 := hx.alloc (.cells #[.int .i64 (d : Int), .int .i64 (k : Int)] 3)
  have hb1 := hb.alloc hb.size (.cells #[.int .i64 (d : Int), .int .i64 (k : Int)] 3)
  have ho := Blk.new w1 3 #[.int .i64 (d : Int), .int .i64 (k : Int)]
  have hsz : w1.heap.size = w.heap.size + 1 := by rw [← hw1]; simp
  have x0 := hx1.cell 0
  have x1 := hx1.cell 1
  have x2 := hx1.cell 2
  have f0 := hx1.frozen 0
  have f1 := hx1.frozen 1
  have f2 := hx1.frozen 2
  have HX := Lib.hid hx1
  have HB := Lib.hid hb1
  have HO := Lib.hid ho
  have HSZ := Lib.hid hsz
  clear hx hb hx1 hb1 ho hg hn hsz hdd
  go_enter Try.func37, Try.ntmps37
  go_wp2
  refine bodyPost_ret (results_arr rfl rfl (arblk_three _ _ _ HX.out)) rfl ?_
  have hk3 := arkeep_three (w1.alloc (.cells #[.int .i64 (d : Int), .int .i64 (k : Int)] 3)) w.heap.size (.int .i64 1) (.slice (some ⟨w1.heap.size, 0, none⟩) 2 2) (.slice (some ⟨g, 0, none⟩) n n)
  have hfin := HB.out.trans (hk3.below HB.out.size (fun i hi e => by omega))
  have ho := hk3.blk HO.out (by have := HSZ.out; omega)
  have hgf : Blk _ g 2 (l.map iv).toArray := HG.out.below hfin HG.out.lt
  refine ⟨⟨some ⟨w1.heap.size, 0, none⟩, 2, some ⟨g, 0, none⟩, n⟩, (by unfold arC; rw [HN.out]; rfl), ⟨own_of_blk ho rfl (by have := HSZ.out; omega) (show 2 ≤ maxLen by decide), ?_⟩, hfin⟩
  show World.ownsRow _ B 2 1 (.slice (some ⟨g, 0, none⟩) l.length n) l.length (l.map iv)
  rw [HN.out]
  exact own_of_blk hgf (by rw [List.length_map]; exact HN.out) hB (by unfold maxLen; omega)
set_option maxRecDepth 100000 in
set_option maxHeartbeats 4000000 in
theorem mat13h (l : List Int) (k : Nat) (hk : 0 < k) (hk2 : k ≤ 1000000) (hl : l.length ≤ 1000000) (A : Option Addr) (n c : Nat) (w0 w : World) (hn : l.length = n) (hb0 : Below w0.heap.size w0 w) (hr : Reads w0 w0.heap.size 1 A n (l.map iv)) :
    Calls Try.prog 19 #[.int .i64 (k : Int), .slice A n c] w fun e w' => ∃ r : AP, e = .returned (.agg (arC ⟨1, [((l.length / k : Nat) : Int), (k : Int)], l⟩ r)) ∧ AHal w0 w' ⟨1, [((l.length / k : Nat) : Int), (k : Int)], l⟩ r ∧ Below w.heap.size w w' := by
  have hx := Blk.new w 25 #[.int .i64 0, .slice none 0 0, .slice none 0 0]
  have hb := albel w (.cells #[.int .i64 0, .slice none 0 0, .slice none 0 0] 25)
  have hd : (n : Int).tdiv (k : Int) = ((n / k : Nat) : Int) := (Int.ofNat_tdiv n k).symm
  have hdle : n / k ≤ n := Nat.div_le_self n k
  rw [hn] at hl ⊢
  have HN := Lib.hid hn
  have HR := Lib.hid hr
  obtain ⟨d, hdd⟩ : ∃ d, n / k = d := ⟨_, rfl⟩
  rw [hdd] at hd hdle ⊢
  have wd : IntKind.i64.wrap (d : Int) = (d : Int) := by rw [IntKind.wrap_i64]; omega
  have hk0 : ¬ k = 0 := by omega
  obtain ⟨w1, hw1⟩ : ∃ w1, w.alloc (.cells #[.int .i64 0, .slice none 0 0, .slice none 0 0] 25) = w1 := ⟨_, rfl⟩
  rw [hw1] at hx hb
  have hx1 := hx.alloc (.cells #[.int .i64 (d : Int), .int .i64 (k : Int)] 3)
  have hb1 := hb.alloc hb.size (.cells #[.int .i64 (d : Int), .int .i64 (k : Int)] 3)
  have ho := Blk.new w1 3 #[.int .i64 (d : Int), .int .i64 (k : Int)]
  have hsz : w1.heap.size = w.heap.size + 1 := by rw [← hw1]; simp
  have x0 := hx1.cell 0
  have x1 := hx1.cell 1
  have x2 := hx1.cell 2
  have f0 := hx1.frozen 0
  have f1 := hx1.frozen 1
  have f2 := hx1.frozen 2
  have HX := Lib.hid hx1
  have HB := Lib.hid hb1
  have HO := Lib.hid ho
  have HSZ := Lib.hid hsz
  clear hx hb hx1 hb1 ho hn hsz hdd
  go_enter Try.func19, Try.ntmps19
  go_wp2
  refine bodyPost_ret (results_arr rfl rfl (arblk_three _ _ _ HX.out)) rfl ?_
  have hk3 := arkeep_three (w1.alloc (.cells #[.int .i64 (d : Int), .int .i64 (k : Int)] 3)) w.heap.size (.int .i64 1) (.slice (some ⟨w1.heap.size, 0, none⟩) 2 2) (.slice A n c)
  have hfin := HB.out.trans (hk3.below HB.out.size (fun i hi e => by omega))
  have ho := hk3.blk HO.out (by have := HSZ.out; omega)
  refine ⟨⟨some ⟨w1.heap.size, 0, none⟩, 2, A, c⟩, (by unfold arC; rw [HN.out]; rfl), ⟨own_of_blk ho rfl (by have := HSZ.out; have := hb0.size; omega) (show 2 ≤ maxLen by decide), ?_⟩, hfin⟩
  show Reads _ _ 1 A l.length (l.map iv)
  rw [HN.out]
  exact HR.out
end Go.Proofs.Ytenpohnccnlngaa.tu

/-
  The pool of layer 10: a frame is taken out of those that are held, and is held as the one that was used last.
-/
import Derived.Test.YtlmdijijlbmddaaPlPool
namespace Go.Proofs.Ytlmdijijlbmddaa.pool
open Go.RowKit

theorem bs_length (q : QL) : (bsQ q).length = q.length := by unfold bsQ; rw [List.length_map]
theorem nodup_at {l : List Nat} (h : l.Nodup) {i j : Nat} (hi : i < l.length) (hj : j < l.length) (he : l.getD i 0 = l.getD j 0) : i = j := by
  rw [List.getD_eq_getElem?_getD, List.getD_eq_getElem?_getD, List.getElem?_eq_getElem hi, List.getElem?_eq_getElem hj] at he
  exact (List.getElem?_inj hi h).1 (by rw [List.getElem?_eq_getElem hi, List.getElem?_eq_getElem hj]; exact congrArg some he)

section
variable {N p m size : Nat} {w : World} {ask : Bool} {q pre post : QL} {x : FL × FV} {f : FL} {v : FV}
theorem PoolAt.frb (h : PoolAt N w p m size ask q) {j : Nat} (hj : j < q.length) : FrB w ((bsQ q).getD j 0) := by
  rw [bs_at q hj]
  exact ⟨_, (h.at_ hj).blk⟩

theorem PoolAt.re {w' : World} {q' : QL} {A : Option Addr} {c : Nat} (h : PoolAt N w p m size ask q) (hk : KT N [54, 79] w w') (hb : Blk w' p 54 #[pv p, .iface 22 (pv m), .int .i64 (size : Int), .slice A q'.length c, .bool ask]) (ho : w'.ownsRow N 79 1 (.slice A q'.length c) q'.length ((bsQ q').map pv)) (hs : q'.Sublist q) : PoolAt N w' p m size ask q' :=
  ⟨h.np, ⟨A, c, hb, ho⟩, fun x hx => ⟨⟨hk.blk (h.fr x (hs.subset hx)).1.blk (by decide), hk.el (h.fr x (hs.subset hx)).1.el (by decide)⟩, (h.fr x (hs.subset hx)).2⟩, h.nb.sublist (hs.map _), h.ng.sublist (hs.map _), by have := hs.length_le; have := h.few; omega⟩
theorem PoolAt.add {w' : World} {x : FL × FV} {A : Option Addr} {c : Nat} (h : PoolAt N w p m size ask q) (hk : KT N [54, 79] w w') (hb : Blk w' p 54 #[pv p, .iface 22 (pv m), .int .i64 (size : Int), .slice A (q.length + 1) c, .bool ask]) (ho : w'.ownsRow N 79 1 (.slice A (q.length + 1) c) (q.length + 1) ((bsQ q).map pv ++ [pv x.1.b]))
    (hx : FrAt w x.1 x.2) (hN : N ≤ x.1.b ∧ N ≤ x.1.g) (hnb : x.1.b ∉ bsQ q) (hng : x.1.g ∉ q.map (·.1.g)) (hq : q.length < 64) : PoolAt N w' p m size ask (q ++ [x]) := by
  have hl : (q ++ [x]).length = q.length + 1 := by simp
  refine ⟨h.np, ⟨A, c, by rw [hl]; exact hb, by rw [hl]; unfold bsQ; rw [List.map_append, List.map_append]; exact ho⟩, fun y hy => ?_, ?_, ?_, by rw [hl]; have := h.few; omega⟩
  · rcases List.mem_append.1 hy with hy | hy
    · exact ⟨⟨hk.blk (h.fr y hy).1.blk (by decide), hk.el (h.fr y hy).1.el (by decide)⟩, (h.fr y hy).2⟩
    · rw [List.mem_singleton.1 hy]
      exact ⟨⟨hk.blk hx.blk (by decide), hk.el hx.el (by decide)⟩, hN⟩
  · unfold bsQ
    rw [List.map_append, List.nodup_append]
    refine ⟨h.nb, by simp, fun a ha b hb e => ?_⟩
    simp only [List.map_cons, List.map_nil, List.mem_singleton] at hb
    subst e hb
    exact hnb ha
  · rw [List.map_append, List.nodup_append]
    refine ⟨h.ng, by simp, fun a ha b hb e => ?_⟩
    simp only [List.map_cons, List.map_nil, List.mem_singleton] at hb
    subst e hb
    exact hng ha

set_option maxHeartbeats 2000000 in
theorem remove_in (h : PoolAt N w p m size ask (pre ++ x :: post)) : Calls Try.prog 58 #[pv p, pv x.1.b] w fun e w' => e = .returned (.tuple #[]) ∧ PoolAt N w' p m size ask (pre ++ post) ∧ KT N [54, 79] w w' := by
  obtain ⟨A, c, hb, ho⟩ := h.pool
  obtain ⟨n, hn⟩ : ∃ n, (pre ++ post).length = n := ⟨_, rfl⟩
  have hl : (pre ++ x :: post).length = n + 1 := by rw [← hn]; simp only [List.length_append, List.length_cons]; omega
  rw [hl] at hb ho
  obtain ⟨g, rfl⟩ : ∃ g, A = some ⟨g, 0, none⟩ := by
    rcases ho.2 with ⟨_, h0⟩ | ⟨g, cap, cur, e, _⟩
    · omega
    · injection e with e1 _ _
      exact ⟨g, e1⟩
  have hks : pre.length < n + 1 := by rw [← hn, List.length_append]; omega
  have hat : (bsQ (pre ++ x :: post)).getD pre.length 0 = x.1.b := by
    rw [bs_at _ (by rw [hl]; exact hks), List.getElem_append_right (Nat.le_refl _)]
    simp
  have her : (bsQ (pre ++ x :: post)).eraseIdx pre.length = bsQ (pre ++ post) := by
    unfold bsQ
    rw [List.map_append, List.map_append, List.map_cons, List.eraseIdx_append_of_length_le (by rw [List.length_map]; exact Nat.le_refl _), List.length_map, Nat.sub_self]
    rfl
  obtain ⟨w1, hw1⟩ : ∃ w1, w.alloc (.cells #[pv x.1.b] 79) = w1 := ⟨_, rfl⟩
  have hb1 : Below w.heap.size w w1 := by rw [← hw1]; exact (Below.refl _ _).alloc (Nat.le_refl _) _
  have hx1 : Blk w1 w.heap.size 79 #[pv x.1.b] := by rw [← hw1]; exact Blk.new w _ _
  have k1 : KT N [54, 79] w w1 := KT.of_below hb1
  have ho1 : w1.ownsRow N 79 1 (.slice (some ⟨g, 0, none⟩) (n + 1) c) (n + 1) ((bsQ (pre ++ x :: post)).map pv) := (KT.of_below (N := N) (T := []) hb1).own ho (by simp)
  have hp1 : Blk w1 p 54 #[pv p, .iface 22 (pv m), .int .i64 (size : Int), .slice (some ⟨g, 0, none⟩) (n + 1) c, .bool ask] := hb.below hb1 hb.lt
  have hgl : g < w.heap.size := (own_typ_of ho rfl).2.lt
  have HD := Lib.hid (del_yes N n c g x.1.b w.heap.size pre.length (bsQ (pre ++ x :: post)) w1 ho1 (by rw [bs_length, hl]) (fun j hj => (h.frb (by rw [hl]; exact hj)).keep (Keep.of_below (S := fun _ => False) hb1) (fun h => h)) hks hat
    (fun j hj e => nodup_at h.nb (by rw [bs_length, hl]; exact hj) (by rw [bs_length, hl]; exact hks) (by rw [e, hat])) (hx1.cell 0) (by omega))
  rw [her] at HD
  have c3 := hp1.cell 3
  have HP1 := Lib.hid hp1
  have HO1 := Lib.hid ho1
  have HB1 := Lib.hid hb1
  have K1 := Lib.hid k1
  have H := Lib.hid h
  have htg := (own_typ_of ho1 rfl).2
  have htp := hp1.typ
  have hNg := (own_typ_of ho1 rfl).1
  have hNp := h.np
  have hmf : ∀ (fn : Fn) (first cap : Array Value) (w : World), (Instr.makeFunc fn first cap).run Try.prog w = .ok (.func fn first cap) w := fun _ _ _ _ => rfl
  clear h hb ho hx1 hb1 k1 ho1 hp1 her hat hl hks
  go_enter Try.func58, Try.ntmps58
  go_wp2_with (go_at_call 88; refine HD.out.mono ?_; rintro e w2 ⟨rfl, ho2, hk2⟩; have hpg : p ≠ g := (fun e => absurd (Typ.ne htp (e ▸ htg)) (by decide)); have hp2 := hk2.blk HP1.out hpg; have d3 := hp2.cell 3; have f3 := hp2.frozen 3; have HP2 := Lib.hid hp2; have HO2 := Lib.hid ho2; have HK2 := Lib.hid hk2; clear ho2 hk2 hp2)
  go_end0
  have kt : KT N [54, 79] w (w2.setCell ⟨p, 3, none⟩ (.slice (some ⟨g, 0, none⟩) n c)) :=
    (K1.out.trans ⟨HK2.out.more (fun i _ e => ⟨e ▸ hNg, 79, by decide, e ▸ htg⟩)⟩).trans (KT.set_ HP2.out.typ hNp (by decide) 3 _)
  have ho3 := (Keep.setCell (S := fun k => k = p) (Keep.refl _ w2) ⟨p, 3, none⟩ (.slice (some ⟨g, 0, none⟩) n c) (fun _ => rfl)).own HO2.out (fun k hk e => hpg (by rw [← e]; simpa [Value.ownBlock] using hk.symm))
  have hbp := HP2.out.set_ 3 (.slice (some ⟨g, 0, none⟩) n c)
  obtain rfl := hn
  exact ⟨rfl, H.out.re kt hbp ho3 (List.Sublist.append_left (List.sublist_cons_self x post) pre), kt⟩

set_option maxHeartbeats 2000000 in
theorem remove_out (h : PoolAt N w p m size ask q) (hf : FrB w f.b) (hno : f.b ∉ bsQ q) : Calls Try.prog 58 #[pv p, pv f.b] w fun e w' => e = .returned (.tuple #[]) ∧ PoolAt N w' p m size ask q ∧ KT N [54, 79] w w' := by
  obtain ⟨A, c, hb, ho⟩ := h.pool
  obtain ⟨n, hn⟩ : ∃ n, q.length = n := ⟨_, rfl⟩
  have hfew := h.few
  rw [hn] at hb ho hfew
  obtain ⟨w1, hw1⟩ : ∃ w1, w.alloc (.cells #[pv f.b] 79) = w1 := ⟨_, rfl⟩
  have hb1 : Below w.heap.size w w1 := by rw [← hw1]; exact (Below.refl _ _).alloc (Nat.le_refl _) _
  have hx1 : Blk w1 w.heap.size 79 #[pv f.b] := by rw [← hw1]; exact Blk.new w _ _
  have k1 : KT N [54, 79] w w1 := KT.of_below hb1
  have ho1 : w1.ownsRow N 79 1 (.slice A n c) n ((bsQ q).map pv) := (KT.of_below (N := N) (T := []) hb1).own ho (by simp)
  have hp1 : Blk w1 p 54 #[pv p, .iface 22 (pv m), .int .i64 (size : Int), .slice A n c, .bool ask] := hb.below hb1 hb.lt
  have hrw : Rw w1 n A (bsQ q) := ⟨by rw [bs_length, hn], fun j hj => by
    rcases ho1.2 with ⟨_, h0⟩ | ⟨g, cap, cur, e, _⟩
    · omega
    · injection e with e1 e2 e3
      subst e1
      refine ⟨g, rfl, (own_at ho1 ?_).1⟩
      rw [List.getElem?_map, List.getD_eq_getElem?_getD, List.getElem?_eq_getElem (by rw [bs_length, hn]; exact hj)]
      rfl, fun j hj => (h.frb (by rw [hn]; exact hj)).keep (Keep.of_below (S := fun _ => False) hb1) (fun h => h)⟩
  have HD := Lib.hid (del_no n c f.b w.heap.size A (bsQ q) w1 hrw (hf.keep (Keep.of_below (S := fun _ => False) hb1) (fun h => h)) (hx1.cell 0) (by omega) (fun j hj e => hno (by
    rw [← e, List.getD_eq_getElem?_getD, List.getElem?_eq_getElem (by rw [bs_length, hn]; exact hj)]
    exact List.getElem_mem _)))
  have c3 := hp1.cell 3
  have f3 := hp1.frozen 3
  have HP1 := Lib.hid hp1
  have HO1 := Lib.hid ho1
  have K1 := Lib.hid k1
  have H := Lib.hid h
  have htp := hp1.typ
  have hNp := h.np
  have hmf : ∀ (fn : Fn) (first cap : Array Value) (w : World), (Instr.makeFunc fn first cap).run Try.prog w = .ok (.func fn first cap) w := fun _ _ _ _ => rfl
  clear h hb ho hx1 hb1 k1 ho1 hp1 hrw hf hno hfew
  go_enter Try.func58, Try.ntmps58
  go_wp2_with (go_at_call 88; refine HD.out.mono ?_; rintro e _ ⟨rfl, rfl⟩)
  go_end0
  have kt : KT N [54, 79] w (w1.setCell ⟨p, 3, none⟩ (.slice A n c)) := K1.out.trans (KT.set_ HP1.out.typ hNp (by decide) 3 _)
  have ho3 := (Keep.setCell (S := fun k => k = p) (Keep.refl _ w1) ⟨p, 3, none⟩ (.slice A n c) (fun _ => rfl)).own HO1.out (fun k hk e => by
    have := (own_typ_of HO1.out hk).2
    exact absurd (Typ.ne htp (e ▸ this)) (by decide))
  have hbp := HP1.out.set_ 3 (.slice A n c)
  obtain rfl := hn
  exact ⟨rfl, H.out.re kt hbp ho3 (List.Sublist.refl q), kt⟩

set_option maxHeartbeats 2000000 in
/-- What 'use' does behind 'remove'. -/
theorem use_any (hr : Calls Try.prog 58 #[pv p, pv f.b] w fun e w' => e = .returned (.tuple #[]) ∧ PoolAt N w' p m size ask q ∧ KT N [54, 79] w w') (hx : FrAt w f v) (hN : N ≤ f.b ∧ N ≤ f.g) (hnb : f.b ∉ bsQ q) (hng : f.g ∉ q.map (·.1.g)) (hq : q.length < 64) (hNw : N ≤ w.heap.size) :
    Calls Try.prog 51 #[pv p, pv f.b] w fun e w' => e = .returned (.tuple #[]) ∧ PoolAt N w' p m size ask (q ++ [(f, v)]) ∧ KT N [54, 79] w w' := by
  obtain ⟨i0, hi, hz0, hz1, hz2⟩ := info_parts infoFrp
  have HR := Lib.hid hr
  have HX := Lib.hid hx
  have HNB := Lib.hid hnb
  have HNG := Lib.hid hng
  clear hr hx hnb hng
  go_enter Try.func51, Try.ntmps51
  go_wp2_with (first
    | (go_at_call 58; refine HR.out.mono ?_; rintro e w1 ⟨rfl, h1, k1⟩; obtain ⟨A, c, hb1, ho1⟩ := h1.pool; have c3 := hb1.cell 3
       have HP1 := Lib.hid hb1; have HO1 := Lib.hid ho1; have K1 := Lib.hid k1; have H1 := Lib.hid h1
       obtain ⟨n, hn⟩ : ∃ n, q.length = n := ⟨_, rfl⟩
       rw [hn] at c3 HO1 HP1 hq
       have hread : Hid (Reads (w1.alloc (.cells #[pv f.b] 79)) (w1.heap.size + 1) 1 (some ⟨w1.heap.size, 0, none⟩) 1 [pv f.b]) := Lib.hid (by
         refine ⟨rfl, fun _ => ⟨_, rfl, Nat.lt_succ_self _, fun j u hu => ?_⟩⟩
         have hj : j = 0 := by
           have := (List.getElem?_eq_some_iff.1 hu).1
           simpa using this
         subst hj
         rw [Addr.add_mid]
         exact ((Blk.new w1 79 #[pv f.b]).cell 0).trans (by simpa using hu))
       have hwz : w.heap.size ≤ w1.heap.size := k1.keep.size
       clear hb1 ho1 k1 h1)
    | (at_builtin; refine wpList_append_any _ rfl _ _ 52 rfl N 79 i0 (.pointer none) 1 8 Try.underlying52 hi hz0 hz1 hz2 rfl (by decide) _ _ _ rfl (HO1.out.alloc _) (w1.heap.size + 1) (some ⟨w1.heap.size, 0, none⟩) 1 1 [pv f.b] rfl hread.out (by intro u hu; rw [List.mem_singleton.1 hu]; rfl) (by unfold maxLen; omega) (by omega) (by simp; omega) ?_
       intro v' w2 hown hgrow _
       have hg2 : (w1.alloc (.cells #[pv f.b] 79)).grownBy w2 (Value.slice A n c).ownBlock := hgrow
       have hne : some p ≠ (Value.slice A n c).ownBlock := fun e => own_blk_ne HO1.out HP1.out (by decide) e.symm
       have hp2 := (HP1.out.alloc (.cells #[pv f.b] 79)).grown hg2 hne
       have kB : KT N [54, 79] w1 w2 := (KT.of_below ((Below.refl _ w1).alloc (Nat.le_refl _) _)).trans (KT.append (HO1.out.alloc _) hg2 (Nat.le_refl _) (by decide))
       obtain ⟨g', c', rfl⟩ : ∃ g' c', v' = .slice (some ⟨g', 0, none⟩) (n + 1) c' := by
         rcases hown.2 with ⟨_, h0⟩ | ⟨g, cap, cur, e, _⟩
         · omega
         · exact ⟨g, cap, e⟩
       have hpg : p ≠ g' := fun e => absurd (Typ.ne hp2.typ (e ▸ (own_typ_of hown rfl).2)) (by decide)
       have d3 := hp2.cell 3
       have f3 := hp2.frozen 3
       have HP2 := Lib.hid hp2
       have HO2 := Lib.hid hown
       have KB := Lib.hid kB
       clear hown hgrow hg2 hne hp2 kB))
  go_end0
  have htp := HP2.out.typ
  have hNp := H1.out.np
  have kt : KT N [54, 79] w1 (w2.setCell ⟨p, 3, none⟩ (.slice (some ⟨g', 0, none⟩) (n + 1) c')) := KB.out.trans (KT.set_ htp hNp (by decide) 3 _)
  have ho3 := (Keep.setCell (S := fun k => k = p) (Keep.refl _ w2) ⟨p, 3, none⟩ (.slice (some ⟨g', 0, none⟩) (n + 1) c') (fun _ => rfl)).own HO2.out (fun k hk e => hpg (by rw [← e]; simpa [Value.ownBlock] using hk.symm))
  have hbp := HP2.out.set_ 3 (.slice (some ⟨g', 0, none⟩) (n + 1) c')
  obtain rfl := hn
  have hx1 : FrAt w1 f v := ⟨K1.out.blk HX.out.blk (by decide), K1.out.el HX.out.el (by decide)⟩
  exact ⟨rfl, H1.out.add (x := (f, v)) kt hbp ho3 hx1 hN HNB.out HNG.out hq, K1.out.trans kt⟩

theorem use_in (h : PoolAt N w p m size ask (pre ++ x :: post)) (hN : N ≤ w.heap.size) : Calls Try.prog 51 #[pv p, pv x.1.b] w fun e w' => e = .returned (.tuple #[]) ∧ PoolAt N w' p m size ask (pre ++ post ++ [x]) ∧ KT N [54, 79] w w' := by
  have hx := h.fr x (by simp)
  have hnb := h.nb
  have hng := h.ng
  unfold bsQ at hnb
  rw [List.map_append, List.map_cons, List.nodup_append] at hnb hng
  obtain ⟨n1, n2, n3⟩ := hnb
  obtain ⟨m1, m2, m3⟩ := hng
  rw [List.nodup_cons] at n2 m2
  refine use_any (remove_in h) hx.1 hx.2 ?_ ?_ ?_ hN
  · unfold bsQ
    rw [List.map_append, List.mem_append]
    rintro (h1 | h1)
    · exact n3 _ h1 _ (List.mem_cons_self ..) rfl
    · exact n2.1 h1
  · rw [List.map_append, List.mem_append]
    rintro (h1 | h1)
    · exact m3 _ h1 _ (List.mem_cons_self ..) rfl
    · exact m2.1 h1
  · have := h.few.1
    simp only [List.length_append, List.length_cons] at this ⊢
    omega
theorem use_out (h : PoolAt N w p m size ask q) (hx : FrAt w f v) (hN : N ≤ f.b ∧ N ≤ f.g) (hnb : f.b ∉ bsQ q) (hng : f.g ∉ q.map (·.1.g)) (hq : q.length < 64) (hNw : N ≤ w.heap.size) : Calls Try.prog 51 #[pv p, pv f.b] w fun e w' => e = .returned (.tuple #[]) ∧ PoolAt N w' p m size ask (q ++ [(f, v)]) ∧ KT N [54, 79] w w' :=
  use_any (remove_out h ⟨_, hx.blk⟩ hnb) hx hN hnb hng hq hNw
end
end Go.Proofs.Ytlmdijijlbmddaa.pool

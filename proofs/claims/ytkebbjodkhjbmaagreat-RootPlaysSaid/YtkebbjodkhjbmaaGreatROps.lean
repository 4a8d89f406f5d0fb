/-
  Operations as layer 6's statements take them: how they lie in memory, and how much of it the statements go through ('great'); made by wip/tools/gen/mkrops.py.
-/
import Derived.Test.YtkebbjodkhjbmaaGreatRtDec
namespace Go.Proofs.YtkebbjodkhjbmaaGreat.root
open Go.RowKit Go.Proofs.YtkebbjodkhjbmaaGreat.crc

structure ROp where
  kind : Int
  r : RV
  at_ : Int
  b : List UInt8
  c : DCrash
structure ROp.Fine (o : ROp) : Prop where
  k : i64ok o.kind
  r : o.r.Fine
  a : i64ok o.at_
  c : o.c.Fine

/-- The ten cells of a call at ad. -/
structure RCells (W : World) (B : Nat) (ad : Addr) (o : ROp) (BA : Option Addr) (Bc : Nat) (KA : Option Addr) (Kc : Nat) : Prop where
  kind : W.cell? ad = some (.int .i64 o.kind)
  rn : W.cell? ⟨ad.block, ad.off + 1, none⟩ = some (.int .u64 (o.r.n : Int))
  rl : W.cell? ⟨ad.block, ad.off + 2, none⟩ = some (.int .i64 o.r.len)
  rs : W.cell? ⟨ad.block, ad.off + 3, none⟩ = some (.int .u32 (o.r.sm : Int))
  at_ : W.cell? ⟨ad.block, ad.off + 4, none⟩ = some (.int .i64 o.at_)
  b : W.cell? ⟨ad.block, ad.off + 5, none⟩ = some (.slice BA o.b.length Bc)
  write : W.cell? ⟨ad.block, ad.off + 6, none⟩ = some (.int .i64 o.c.write)
  keep : W.cell? ⟨ad.block, ad.off + 7, none⟩ = some (.slice KA o.c.keep.length Kc)
  torn : W.cell? ⟨ad.block, ad.off + 8, none⟩ = some (.int .i64 o.c.torn)
  cat : W.cell? ⟨ad.block, ad.off + 9, none⟩ = some (.int .i64 o.c.at_)
  bs : Sl W B BA Bc (o.b.map bv)
  ks : Sl W B KA Kc (o.c.keep.map iv)

/-- The slice of length n at A holds the calls. -/
def ROps (W : World) (B : Nat) (A : Option Addr) (n : Nat) (l : List ROp) : Prop :=
  l.length = n ∧ (∀ o ∈ l, o.Fine) ∧ (0 < n → ∃ ad, A = some ad ∧ ad.block < B ∧ ∀ i o, l[i]? = some o → ∃ BA Bc KA Kc, RCells W B (ad.add (i * 10)) o BA Bc KA Kc)

theorem ROps.below {w w' : World} {B n : Nat} {A : Option Addr} {l : List ROp} (h : ROps w B A n l) (hk : Below B w w') : ROps w' B A n l :=
  ⟨h.1, h.2.1, fun h0 => by
    obtain ⟨ad, e, hb, hc⟩ := h.2.2 h0
    refine ⟨ad, e, hb, fun i o ho => ?_⟩
    obtain ⟨BA, Bc, KA, Kc, d⟩ := hc i o ho
    have same : ∀ j, w'.cell? ⟨(ad.add (i * 10)).block, (ad.add (i * 10)).off + j, none⟩ = w.cell? ⟨(ad.add (i * 10)).block, (ad.add (i * 10)).off + j, none⟩ := fun j => hk.cell (by dsimp only; rw [block_of_add]; exact hb)
    have same0 : w'.cell? (ad.add (i * 10)) = w.cell? (ad.add (i * 10)) := hk.cell (by rw [block_of_add]; exact hb)
    exact ⟨BA, Bc, KA, Kc, same0.trans d.kind, (same 1).trans d.rn, (same 2).trans d.rl, (same 3).trans d.rs, (same 4).trans d.at_, (same 5).trans d.b, (same 6).trans d.write, (same 7).trans d.keep, (same 8).trans d.torn, (same 9).trans d.cat, d.bs.below hk, d.ks.below hk⟩⟩

theorem ROps.at_ {w : World} {B n k : Nat} {A : Option Addr} {l : List ROp} (h : ROps w B A n l) (hk : k < n) : ∃ ad BA Bc KA Kc, A = some ad ∧ ad.block < B ∧ RCells w B (ad.add (k * 10)) (l[k]'(by rw [h.1]; exact hk)) BA Bc KA Kc := by
  obtain ⟨ad, e, hb, hc⟩ := h.2.2 (by omega)
  obtain ⟨BA, Bc, KA, Kc, d⟩ := hc k (l[k]'(by rw [h.1]; exact hk)) (List.getElem?_eq_getElem (by rw [h.1]; exact hk))
  exact ⟨ad, BA, Bc, KA, Kc, e, hb, d⟩

/-- Is a call greater than the statements go through? -/
def ROp.great (o : ROp) : Bool := decide (200 < o.b.length) || decide (20 < o.c.keep.length)
def rgreat (l : List ROp) : Bool := decide (80 < l.length) || l.any ROp.great

set_option maxHeartbeats 1000000 in
theorem rgreat_any (A : Option Addr) (c n : Nat) (l : List ROp) (w : World) (h : ROps w w.heap.size A n l) (hn : n ≤ 9223372036854775807) :
    Calls Tryz.prog 10 #[.slice A n c] w fun e w' => e = .returned (.bool (rgreat l)) ∧ w = w' := by
  have HL := Lib.hid h.1
  by_cases hbig : 80 < n
  · have hg : rgreat l = true := by unfold rgreat; rw [HL.out, decide_eq_true hbig]; rfl
    clear h
    go_enter Tryz.func10, Tryz.ntmps10
    go_wp2
    go_ret
    exact ⟨by rw [hg]; rfl, rfl⟩
  · have hg : rgreat l = l.any ROp.great := by unfold rgreat; rw [HL.out, decide_eq_false hbig, Bool.false_or]
    rw [hg]
    have H := Lib.hid h
    clear h hg
    go_enter Tryz.func10, Tryz.ntmps10
    go_wp2
    go_loopw [9] (fun i wr => ∃ j, j ≤ n ∧ i = .int .i64 ((j : Nat) : Int) ∧ (l.take j).any ROp.great = false ∧ wr = w) (fun i _ => n - (intOf i).toNat)
    case atStart => exact ⟨0, Nat.zero_le _, rfl, by simp, rfl⟩
    case round =>
      obtain ⟨j, hj, rfl, hno, rfl⟩ := hrel
      by_cases hlt : j < n
      · obtain ⟨ad, BA, Bc, KA, Kc, rfl, _, d⟩ := H.out.at_ hlt
        have hjl : j < l.length := by have := HL.out; omega
        have hin : l[j] ∈ l := List.getElem_mem hjl
        have hstep : l[j].great = false → (l.take (j + 1)).any ROp.great = false := fun h => by
          rw [List.take_succ_eq_append_getElem hjl, List.any_append, hno]
          simp [h]
        have hyes : l[j].great = true → l.any ROp.great = true := fun h => List.any_eq_true.2 ⟨_, hin, h⟩
        have db := d.b
        have dk := d.keep
        generalize l[j] = o at *
        have HST := Lib.hid hstep
        have HYE := Lib.hid hyes
        clear hstep hyes hin hno d
        by_cases hb : 200 < o.b.length
        · have hgr : o.great = true := by unfold ROp.great; rw [decide_eq_true hb]; rfl
          have HGR := Lib.hid hgr
          generalize o.b.length = bl at *
          clear hgr
          go_wp2
          go_ret
          exact ⟨by rw [HYE.out HGR.out]; rfl, rfl⟩
        · by_cases hk : 20 < o.c.keep.length
          · have hgr : o.great = true := by unfold ROp.great; rw [decide_eq_true hk, Bool.or_true]
            have HGR := Lib.hid hgr
            generalize o.b.length = bl at *
            generalize o.c.keep.length = kl at *
            clear hgr
            go_wp2
            go_ret
            exact ⟨by rw [HYE.out HGR.out]; rfl, rfl⟩
          · have hgr : o.great = false := by unfold ROp.great; rw [decide_eq_false hk, decide_eq_false hb]; rfl
            have HGR := Lib.hid hgr
            generalize o.b.length = bl at *
            generalize o.c.keep.length = kl at *
            clear hgr
            go_wp2
            exact ⟨⟨j + 1, by omega, by go_num, HST.out HGR.out, trivial⟩, by simp [intOf]; omega⟩
      · obtain rfl : j = n := by omega
        rw [List.take_of_length_le (by have := HL.out; omega)] at hno
        have HNO := Lib.hid hno
        clear hno
        go_wp2
        go_ret
        exact ⟨by rw [HNO.out]; rfl, rfl⟩

end Go.Proofs.YtkebbjodkhjbmaaGreat.root

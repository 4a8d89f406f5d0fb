/-
  The disk of layer 3: what becomes of the pending sectors (fates), and its iterator.
-/
import Derived.Test.YtddhldmeknmgpaaKDiskM
import Derived.Test.YtddhldmeknmgpaaKDiskQ
import Derived.Test.YtddhldmeknmgpaaFence
namespace Go.Proofs.Ytddhldmeknmgpaa
open Go.RowKit Go.Maps

def clampN (a : Int) : Int := if a < 0 then 0 else if 128 < a then 128 else a

/-- What the iterator has captured. -/
structure FatesAt (w : World) (b1 b2 b3 b4 gM : Nat) (d : DAt) (c : DCrash) (KA : Option Addr) (Kc N : Nat) : Prop where
  p1 : Blk w b1 35 #[.pointer (some ⟨d.b, 0, none⟩)]
  p2 : Blk w b2 52 #[.int .i64 c.write, .slice KA c.keep.length Kc, .int .i64 c.torn, .int .i64 c.at_]
  p3 : Blk w b3 116 #[.slice (some ⟨gM, 0, none⟩) N N]
  p4 : Blk w b4 3 #[.int .i64 (clampN c.at_)]
  pM : Blk w gM 4 (marks N c.keep).toArray

theorem FatesAt.keep {S : Nat → Prop} {w w' : World} {b1 b2 b3 b4 gM : Nat} {d : DAt} {c : DCrash} {KA : Option Addr} {Kc N : Nat} (h : FatesAt w b1 b2 b3 b4 gM d c KA Kc N) (hk : Keep S w w') (h1 : ¬ S b1) (h2 : ¬ S b2) (h3 : ¬ S b3) (h4 : ¬ S b4) (hM : ¬ S gM) : FatesAt w' b1 b2 b3 b4 gM d c KA Kc N :=
  ⟨hk.blk h.p1 h1, hk.blk h.p2 h2, hk.blk h.p3 h3, hk.blk h.p4 h4, hk.blk h.pM hM⟩

section
variable {w : World} {d : DAt} {kv : Value} {s : RSt}

set_option maxRecDepth 100000 in
set_option maxHeartbeats 2000000 in
theorem dfates_any (c : DCrash) (KA : Option Addr) (Kc : Nat) (h : DK w d kv s) (hk : Sl w w.heap.size KA Kc (c.keep.map iv)) :
    Calls Try.prog 71 #[.pointer (some ⟨d.b, 0, none⟩), .agg #[.int .i64 c.write, .slice KA c.keep.length Kc, .int .i64 c.torn, .int .i64 c.at_]] w fun e w' => ∃ b1 b2 b3 b4 gM, e = .returned (.func (.func 74) #[] #[.pointer (some ⟨b1, 0, none⟩), .pointer (some ⟨b3, 0, none⟩), .pointer (some ⟨b2, 0, none⟩), .pointer (some ⟨b4, 0, none⟩)]) ∧
      FatesAt w' b1 b2 b3 b4 gM d c KA Kc s.stays.length ∧ (w.heap.size ≤ b1 ∧ w.heap.size ≤ b2 ∧ w.heap.size ≤ b3 ∧ w.heap.size ≤ b4 ∧ w.heap.size ≤ gM) ∧ Below w.heap.size w w' := by
  obtain ⟨M, hM⟩ : ∃ M : Int, (if (0 : Int) > c.at_ then 0 else c.at_) = M := ⟨_, rfl⟩
  have hmax : ∀ ts t W, (Builtin.max_ ts t #[.int .i64 c.at_, .int .i64 0]).run Try.prog W = .ok (.int .i64 M) W := fun ts t W => by rw [run_max_int2, hM]
  obtain ⟨R, hR⟩ : ∃ R : Int, clampN c.at_ = R := ⟨_, rfl⟩
  have hmin : ∀ ts t W, (Builtin.min_ ts t #[.int .i64 M, .int .i64 128]).run Try.prog W = .ok (.int .i64 R) W := fun ts t W => by
    have e : (if (128 : Int) < M then 128 else M) = R := by
      rw [← hR, ← hM]
      unfold clampN
      by_cases h1 : c.at_ < 0
      · rw [if_pos (show (0 : Int) > c.at_ from h1), if_pos h1]; rfl
      · rw [if_neg (show ¬ (0 : Int) > c.at_ from h1), if_neg h1]
    rw [run_min_int2, e]
  have HRR := Lib.hid hR
  clear hM hR
  obtain ⟨W2, hW2⟩ : ∃ W2, (w.alloc (.cells #[.pointer (some ⟨d.b, 0, none⟩)] 35)).alloc (.cells #[.int .i64 c.write, .slice KA c.keep.length Kc, .int .i64 c.torn, .int .i64 c.at_] 52) = W2 := ⟨_, rfl⟩
  have hB2 : Below w.heap.size w W2 := by rw [← hW2]; exact ((Below.refl _ w).alloc (Nat.le_refl _) _).alloc (by simp) _
  have hs2 : W2.heap.size = w.heap.size + 2 := by rw [← hW2]; simp
  have h2 : DK W2 d kv s := h.below hB2
  have q1 : Blk W2 w.heap.size 35 #[.pointer (some ⟨d.b, 0, none⟩)] := by rw [← hW2]; exact (Blk.new w _ _).alloc _
  have q2 : Blk W2 (w.heap.size + 1) 52 #[.int .i64 c.write, .slice KA c.keep.length Kc, .int .i64 c.torn, .int .i64 c.at_] := by
    rw [← hW2]
    have := Blk.new (w.alloc (.cells #[.pointer (some ⟨d.b, 0, none⟩)] 35)) 52 #[.int .i64 c.write, .slice KA c.keep.length Kc, .int .i64 c.torn, .int .i64 c.at_]
    simp only [World.size_alloc] at this
    exact this
  have hr2 : Reads W2 W2.heap.size 1 KA c.keep.length (c.keep.map iv) := by
    have h0 := hk.reads
    rw [List.length_map] at h0
    exact (h0.below hB2).more hB2.size
  have hcap : c.keep.length ≤ 9223372036854775807 := by
    have h1 := hk.cap
    have h2 := hk.big
    rw [List.length_map] at h1
    omega
  have HM := Lib.hid (dmarked_any KA Kc c.keep.length c.keep h2 rfl hr2 hcap)
  have e1 : W2.cell? ⟨w.heap.size, 0, none⟩ = some (.pointer (some ⟨d.b, 0, none⟩)) := q1.cell 0
  have e2 : W2.cell? ⟨w.heap.size + 1, 1, none⟩ = some (.slice KA c.keep.length Kc) := q2.cell 1
  have Q1 := Lib.hid q1
  have Q2 := Lib.hid q2
  have HB2 := Lib.hid hB2
  have hlater : ∀ W3, Below W2.heap.size W2 W3 → W3.cell? ⟨w.heap.size + 1, 3, none⟩ = some (.int .i64 c.at_) := fun W3 hb3 => (q2.below hb3 q2.lt).cell 3
  have HLT := Lib.hid hlater
  clear h hk h2 hr2 hcap q1 q2 hB2 hlater
  go_enter Try.func71, Try.ntmps71
  go_wp2_with (go_at_call 73; refine HM.out.mono ?_; rintro e W3 ⟨gM, rfl, hgM, hbM, hB3⟩; have y3 := HLT.out W3 hB3; have hlt3 : w.heap.size + 1 < W3.heap.size := (by have := hB3.size; omega); have HBM := Lib.hid hbM; have HB3 := Lib.hid hB3; clear hbM hB3)
  go_ret
  have hs3 := HB3.out.size
  have hb34 : Below w.heap.size w ((W3.alloc (.cells #[.slice (some ⟨gM, 0, none⟩) s.stays.length s.stays.length] 116)).alloc (.cells #[.int .i64 R] 3)) :=
    ((HB2.out.trans (HB3.out.mono (by omega))).alloc (by omega) _).alloc (by simp; omega) _
  have hB4 : Below W2.heap.size W2 ((W3.alloc (.cells #[.slice (some ⟨gM, 0, none⟩) s.stays.length s.stays.length] 116)).alloc (.cells #[.int .i64 R] 3)) :=
    (HB3.out.alloc (by omega) _).alloc (by simp; omega) _
  have n4 := Blk.new (W3.alloc (.cells #[.slice (some ⟨gM, 0, none⟩) s.stays.length s.stays.length] 116)) 3 #[.int .i64 R]
  rw [World.size_alloc] at n4
  refine ⟨w.heap.size, w.heap.size + 1, W3.heap.size, W3.heap.size + 1, gM, rfl, ⟨Q1.out.below hB4 Q1.out.lt, Q2.out.below hB4 Q2.out.lt, (Blk.new W3 _ _).alloc _, ?_, (HBM.out.alloc _).alloc _⟩, ⟨Nat.le_refl _, by omega, by omega, by omega, by omega⟩, hb34⟩
  rw [HRR.out]
  exact n4

/-- How many bytes of a sector's last write stay. -/
def savedN (c : DCrash) (a : Int) : Int := if a ∈ c.keep then 128 else if a = c.torn then clampN c.at_ else 0
/-- The pending sectors, each with how much of it stays. -/
def fateL (s : RSt) (c : DCrash) : List (Int × Int) := (waits3 s).map fun a => (a, savedN c a)
theorem fateL_length (s : RSt) (c : DCrash) : (fateL s c).length = (waits3 s).length := List.length_map _

/-- One of them. -/
abbrev Fate (s : RSt) (c : DCrash) := { x : Int × Int // x ∈ fateL s c }

/-- What a round keeps: all cells but those of the sectors. -/
def KpG (g : Nat) (W W' : World) : Prop := ∀ p : Addr, p.block ≠ g → ∀ v, W.cell? p = some v → W'.cell? p = some v
theorem KpG.refl (g : Nat) (W : World) : KpG g W W := fun _ _ _ h => h
theorem KpG.trans {g : Nat} {A B C : World} (h : KpG g A B) (k : KpG g B C) : KpG g A C := fun p hp v hv => k p hp v (h p hp v hv)

section
attribute [local go_sem] Oper.semAt_some
set_option maxRecDepth 100000 in
set_option maxHeartbeats 4000000 in
theorem fates_stops (m : Nat) (hm : 1 ≤ m) (b1 b2 b3 b4 gM : Nat) (c : DCrash) (KA : Option Addr) (Kc : Nat) (w : World) (h : DK w d kv s) (hf : FatesAt w b1 b2 b3 b4 gM d c KA Kc s.stays.length) (hne : b1 ≠ d.g ∧ b2 ≠ d.g ∧ b3 ≠ d.g ∧ b4 ≠ d.g ∧ gM ≠ d.g) :
    SeqStopsK Fence.wide m Try.prog 74 #[.pointer (some ⟨b1, 0, none⟩), .pointer (some ⟨b3, 0, none⟩), .pointer (some ⟨b2, 0, none⟩), .pointer (some ⟨b4, 0, none⟩)] (fun x : Fate s c => #[.int .i64 x.1.1, .int .i64 x.1.2]) (KpG d.g) (fun xs => xs.map (·.1) = fateL s c) (fun _ => True) 4096 w := by
  intro l J Jx W hW hJ _ hY h0
  have hlt := h.lt d.g (.inr (.inl rfl))
  have hD : DK W d kv s := h.below hW
  have hF : FatesAt W b1 b2 b3 b4 gM d c KA Kc s.stays.length := hf.keep (Keep.of_below (S := fun _ => False) hW) (fun h => h) (fun h => h) (fun h => h) (fun h => h) (fun h => h)
  have e1 : W.cell? ⟨b1, 0, none⟩ = some (.pointer (some ⟨d.b, 0, none⟩)) := hF.p1.cell 0
  have hwt := dwaits_any hD
  obtain ⟨n, hn⟩ : ∃ n, (waits3 s).length = n := ⟨_, rfl⟩
  simp only [hn] at hwt
  have HWt := Lib.hid hwt
  clear hwt
  have hsz := hW.size
  have hfew := hD.ok.few
  have hW3 : waits3 s = pendTo s.cache s.cache.length := by unfold waits3; rw [pendTo_waits, hD.ok.same]
  have hin : ∀ a ∈ waits3 s, 0 ≤ a ∧ a < (s.stays.length : Int) := fun a ha => by
    rw [hW3] at ha
    have := pendTo_lt ha
    rw [hD.ok.same] at this
    exact this
  have hl3 : n ≤ 4096 := by
    rw [← hn]
    have := pendTo_length s.cache s.cache.length
    rw [hW3]
    have := hD.ok.same
    omega
  have hfl : (fateL s c).length = n := by rw [fateL_length, hn]
  have HIN := Lib.hid hin
  have HF := Lib.hid hF
  have HJ := Lib.hid hJ
  have HY := Lib.hid hY
  have H0 := Lib.hid h0
  have HFL := Lib.hid hfl
  have HN := Lib.hid hn
  have hfw : Fence.wide.fn 75 := trivial
  clear h hf hD hF hJ hY h0 hW hW3 hin hfl hn
  refine callsIn_of_wp Try.func74 rfl trivial ?_ rfl
  simp only [Try.ntmps74, List.size_toArray, List.length_cons, List.length_nil, Nat.reduceAdd, Nat.reduceSub, Array.replicate_succ, Array.replicate_zero, List.push_toArray, List.append_toArray, List.nil_append, List.cons_append]
  gi_wp2_with (gi_at_call 75; refine (callsIn_wide.2 HWt.out).mono ?_; rintro e W1 ⟨A, c1, rfl, hown, hB1⟩; have HOWN := Lib.hid hown; have HB1 := Lib.hid hB1; clear hown hB1)
  have hF1 : FatesAt W1 b1 b2 b3 b4 gM d c KA Kc s.stays.length := HF.out.keep (Keep.of_below (S := fun _ => False) HB1.out) (fun h => h) (fun h => h) (fun h => h) (fun h => h) (fun h => h)
  have hJ1 : J [] W1 := HJ.out [] W W1 none H0.out ⟨HB1.out.os, HB1.out.tape, HB1.out.output, HB1.out.size, fun k hk _ => HB1.out.block k hk⟩ (fun r e => by cases e)
  have HF1 := Lib.hid hF1
  have HJ1 := Lib.hid hJ1
  clear hF1 hJ1
  gi_loopw [12] (fun i wr => ∃ j, j ≤ n ∧ i = .int .i64 ((j : Nat) : Int) ∧ J ((fateL s c).attach.take j) wr ∧ KpG d.g W1 wr) (fun i _ => n - (RowKit.intOf i).toNat)
  case atStart => exact ⟨0, Nat.zero_le _, rfl, HJ1.out, KpG.refl _ _⟩
  case round =>
    obtain ⟨j, hj, rfl, hJs, hkp⟩ := hrel
    by_cases hjn : j < n
    · obtain ⟨ad, rfl, _, cA⟩ := (Reads.of_own HOWN.out).int_at hjn HN.out
      have hfr := Fresh.own HOWN.out ad _ _ rfl
      have hjl : j < (waits3 s).length := by have := HN.out; omega
      have cA2 := hkp (ad.add j) (by rw [block_of_add]; omega) _ cA
      have hjf : j < (fateL s c).attach.length := by rw [List.length_attach]; have := HFL.out; omega
      have hst : (fateL s c).attach.take (j + 1) = (fateL s c).attach.take j ++ [(fateL s c).attach[j]] := List.take_succ_eq_append_getElem hjf
      have hxv : ((fateL s c).attach[j]).1 = ((waits3 s)[j], savedN c (waits3 s)[j]) := by
        rw [List.getElem_attach]
        exact List.getElem_map _
      have hb := HIN.out _ (List.getElem_mem hjl)
      obtain ⟨fn, tmps, assign, body, hy, hR⟩ := HY.out ((fateL s c).attach.take j) ((fateL s c).attach[j]) wr hJs (by rw [List.length_take]; omega)
      rw [← hst] at hR
      rw [hxv] at hy
      generalize (waits3 s)[j] = a at *
      obtain ⟨k, rfl⟩ := Int.eq_ofNat_of_zero_le hb.1
      have hkN : k < s.stays.length := by omega
      have c3 : wr.cell? ⟨b3, 0, none⟩ = some (.slice (some ⟨gM, 0, none⟩) s.stays.length s.stays.length) := hkp ⟨b3, 0, none⟩ hne.2.2.1 _ (HF1.out.p3.cell 0)
      have cM : wr.cell? ⟨gM, k, none⟩ = some (.bool (decide ((k : Int) ∈ c.keep))) := hkp ⟨gM, k, none⟩ hne.2.2.2.2 _ ((HF1.out.pM.cell k).trans (by
        have := marks_at (l := c.keep) hkN
        simpa using this))
      have c2 : wr.cell? ⟨b2, 2, none⟩ = some (.int .i64 c.torn) := hkp ⟨b2, 2, none⟩ hne.2.1 _ (HF1.out.p2.cell 2)
      have c4 : wr.cell? ⟨b4, 0, none⟩ = some (.int .i64 (clampN c.at_)) := hkp ⟨b4, 0, none⟩ hne.2.2.2.1 _ (HF1.out.p4.cell 0)
      dsimp only at hy
      have HR := Lib.hid hR
      have HKP := Lib.hid hkp
      have hnn := hb.2
      generalize s.stays.length = N at *
      clear hst hJs hkp hR cA hb hxv
      by_cases hk : (k : Int) ∈ c.keep
      · have hs : savedN c (k : Int) = 128 := by unfold savedN; rw [if_pos hk]
        rw [hs] at hy
        rw [decide_eq_true hk] at cM
        clear hk hs
        gi_wp2
        refine HR.out.mono ?_
        rintro e W3 (⟨rfl, hJ3, hk3⟩ | ⟨rfl, hJx3⟩)
        · gi_wp2
          go_roundw
          case rel => exact ⟨j + 1, by omega, by go_num, hJ3, HKP.out.trans hk3⟩
          case measure => simp [RowKit.intOf]; omega
        · gi_wp2
          refine bodyPost_ret (results_none rfl _ _ _) rfl ?_
          exact ⟨⟨_, rfl⟩, .inr ⟨_, trivial, hJx3⟩⟩
      · rw [decide_eq_false hk] at cM
        by_cases ht : (k : Int) = c.torn
        · have hs : savedN c (k : Int) = clampN c.at_ := by unfold savedN; rw [if_neg hk, if_pos ht]
          have hq : ((k : Int) == c.torn) = true := by rw [beq_iff_eq]; exact ht
          rw [hs] at hy
          clear hk hs ht
          gi_wp2
          refine HR.out.mono ?_
          rintro e W3 (⟨rfl, hJ3, hk3⟩ | ⟨rfl, hJx3⟩)
          · gi_wp2
            go_roundw
            case rel => exact ⟨j + 1, by omega, by go_num, hJ3, HKP.out.trans hk3⟩
            case measure => simp [RowKit.intOf]; omega
          · gi_wp2
            refine bodyPost_ret (results_none rfl _ _ _) rfl ?_
            exact ⟨⟨_, rfl⟩, .inr ⟨_, trivial, hJx3⟩⟩
        · have hs : savedN c (k : Int) = 0 := by unfold savedN; rw [if_neg hk, if_neg ht]
          have hq : ((k : Int) == c.torn) = false := by rw [beq_eq_false_iff_ne]; exact ht
          rw [hs] at hy
          clear hk hs ht
          gi_wp2
          refine HR.out.mono ?_
          rintro e W3 (⟨rfl, hJ3, hk3⟩ | ⟨rfl, hJx3⟩)
          · gi_wp2
            go_roundw
            case rel => exact ⟨j + 1, by omega, by go_num, hJ3, HKP.out.trans hk3⟩
            case measure => simp [RowKit.intOf]; omega
          · gi_wp2
            refine bodyPost_ret (results_none rfl _ _ _) rfl ?_
            exact ⟨⟨_, rfl⟩, .inr ⟨_, trivial, hJx3⟩⟩
    · obtain rfl : j = n := by omega
      rw [List.take_of_length_le (by rw [List.length_attach]; have := HFL.out; omega)] at hJs
      have HJS := Lib.hid hJs
      clear hJs hkp
      gi_wp2
      go_end0
      exact ⟨⟨_, rfl⟩, .inl ⟨_, (List.attach_map_val (f := id) (l := fateL s c)).trans (List.map_id _), HJS.out⟩⟩
end
end

end Go.Proofs.Ytddhldmeknmgpaa

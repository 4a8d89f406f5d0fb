/-
  The log of layer 9: load.
-/
import Derived.Test.YtdjneiboeehclaaNtLoadA
namespace Go.Proofs.Ytdjneiboeehclaa.note
open Go.RowKit Go.Maps Go.Proofs.Ytdjneiboeehclaa.crc Go.Proofs.Ytdjneiboeehclaa.root

/-- The first k notes. -/
def nsK (ls : List (List UInt8)) (k : Nat) : List NV := (ls.take k).map decN
theorem nsK_len {ls : List (List UInt8)} {k : Nat} (h : k ≤ ls.length) : (nsK ls k).length = k := by unfold nsK; rw [List.length_map, List.length_take]; omega

/-- A round of load, its loop variable boxed. -/
def LA (N n4 q C b mf md M : Nat) (w0 : World) (A : Option Addr) (n c : Nat) (ls : List (List UInt8)) (us : List Value) (bg : Bool) (fr : Nat → Act) (k : Nat) (a' : Act) (W : World) : Prop :=
  k < n ∧ GoL ls k ∧ ∃ v rb, LI N n4 q C b mf md M w0 A n c ls us v bg (nsK ls k) (nsK ls k) W ∧ (¬ v.ownBlock = some rb) ∧ n4 ≤ rb ∧ a' = fr rb ∧ Blk W rb 23 #[.int .i64 (decN (ls.getD k [])).k, .int .i64 (decN (ls.getD k [])).a, .int .i64 (decN (ls.getD k [])).b, .int .i64 (decN (ls.getD k [])).n]
theorem LA.turn {N n4 q C b mf md M n c k : Nat} {w0 W W' : World} {A : Option Addr} {ls : List (List UInt8)} {us : List Value} {bg : Bool} {fr : Nat → Act} {a' : Act} {row : Option Nat} (h : LA N n4 q C b mf md M w0 A n c ls us bg fr k a' W) (hg : W.grownBy W' row) (hr : ∀ r, row = some r → n4 ≤ r ∧ ∃ o : Obj, W.heap[r]? = some o ∧ o.isCells = false) : LA N n4 q C b mf md M w0 A n c ls us bg fr k a' W' := by
  obtain ⟨h1, h2, v, rb, h3, h4, h5, h6, h7⟩ := h
  exact ⟨h1, h2, v, rb, h3.turn hg hr, h4, h5, h6, blk_own h7 hg hr⟩

/-- What load leaves. -/
def Loaded (N b mf md : Nat) (w0 : World) (ns : List NV) (bg : Bool) (W : World) : Prop := Below N w0 W ∧ ∃ v, LogN N W b mf md v bg ns ns

section
attribute [local go_sem] Oper.semAt_some
set_option maxRecDepth 100000 in
set_option maxHeartbeats 4000000 in
theorem lload_any {N M b mf md n c : Nat} {w0 w : World} {A : Option Addr} {ls : List (List UInt8)} {us : List Value} {bg : Bool} (h : LogN N w b mf md (.slice none 0 0) bg [] []) (hE : Below N w0 w) (hr : Rws M w A n ls us) (hMN : M ≤ N) (hbig : n ≤ 1000) :
    Calls Try.prog 37 #[.pointer (some ⟨b, 0, none⟩), .slice A n c] w fun e w' => (∃ u, e = .returned u) ∧ Loaded N b mf md w0 (takeN ls) bg w' := by
  obtain ⟨q, hq⟩ : ∃ q, w.heap.size = q := ⟨_, rfl⟩
  have hlen := hr.len
  have hblt := h.lt
  obtain ⟨wa, hwa⟩ : ∃ wa, w.alloc (.cells #[.pointer (some ⟨b, 0, none⟩)] 37) = wa := ⟨_, rfl⟩
  have hsa : wa.heap.size = q + 1 := by rw [← hwa, World.size_alloc, hq]
  have hbq : Blk wa q 37 #[.pointer (some ⟨b, 0, none⟩)] := by rw [← hq, ← hwa]; exact Blk.new w _ _
  have hba : Below w.heap.size w wa := by rw [← hwa]; exact (Below.refl _ _).alloc (Nat.le_refl _) _
  have hNq : N ≤ q := by have := h.lo.1; omega
  have hmm : mf < q ∧ md < q := by
    obtain ⟨⟨D, hD, _⟩, E, hE, _⟩ := h.m
    have := hD.lt
    have := hE.lt
    omega
  have HLEN := Lib.hid hlen
  have HMN := Lib.hid hMN
  have HBIG := Lib.hid hbig
  have HLI0 : Hid (∀ w4, wa.alloc (.cells #[.slice A n c] 35) = w4 → LI N w4.heap.size q (q + 1) b mf md M w0 A n c ls us (.slice none 0 0) bg (nsK ls 0) (nsK ls 0) w4 ∧ w4.heap.size = q + 2) := Lib.hid (fun w4 h4 => by
    have hs4 : w4.heap.size = q + 2 := by rw [← h4, World.size_alloc, hsa]
    have hb4 : Below wa.heap.size wa w4 := by rw [← h4]; exact (Below.refl _ _).alloc (Nat.le_refl _) _
    have hb04 : Below w.heap.size w w4 := hba.trans (hb4.mono (by rw [hsa]; omega))
    have hc4 : Blk w4 (q + 1) 35 #[.slice A n c] := by rw [← h4, ← hsa]; exact Blk.new wa _ _
    exact ⟨⟨hE.trans (hb04.mono (by omega)), Nat.le_refl _, hbq.below hb4 (by omega), hc4, hr.below (hb04.mono (by omega)), h.below hb04, by omega⟩, hs4⟩)
  have HSA := Lib.hid hsa
  have HQ := Lib.hid hq
  have HMM := Lib.hid hmm
  have HNQ := Lib.hid hNq
  clear h hE hr hMN hbig hlen hbq hba hmm hNq hblt hsa
  refine (callsIn_wide (n := 7)).1 ?_
  refine callsIn_of_wp_marks Try.func37 rfl trivial ?_
  simp only [Try.ntmps37, List.size_toArray, List.length_cons, List.length_nil, Nat.reduceAdd, Nat.reduceSub, Array.replicate_succ, Array.replicate_zero, List.push_toArray, List.append_toArray, List.nil_append, List.cons_append]
  gi_wp2
  refine wpIn_scope_wide ?_
  gi_wp2
  clear hwa hq
  refine wpIn_label ?_
  gi_wp2_with (refine ⟨trivial, ?_⟩; gi_at_call 51; refine (callsIn_wide.2 (ndecoded_any _ _ _ _)).mono ?_; rintro e w4 ⟨rfl, hw4⟩)
  obtain ⟨hLI0, hs4⟩ := HLI0.out w4 hw4
  have HLI0 := Lib.hid hLI0
  have HS4 := Lib.hid hs4
  rw [HSA.out]
  clear hw4 hLI0 hs4
  obtain ⟨C, hC⟩ : ∃ C, q + 1 = C := ⟨_, rfl⟩
  rw [hC] at HLI0 ⊢
  have HCQ : Hid (q + 1 = C) := Lib.hid hC
  clear hC
  refine wpIn_rangeFunc_movesV rfl (by omega) (gf := 57) (lb := #[.pointer (some ⟨C, 0, none⟩)]) rfl trivial (enters_of Try.func57 (by kernel_rfl) rfl)
    (ndecoded_moves 6 (by omega) C M n c (by have := HBIG.out; omega) w4) (Below.refl _ _) (fun _ _ => rfl)
    (fun k W => k ≤ n ∧ GoL ls k ∧ ∃ v, LI N w4.heap.size q C b mf md M w0 A n c ls us v bg (nsK ls k) (nsK ls k) W)
    (fun k _ W => k < n ∧ GoL ls k ∧ ∃ v, LI N w4.heap.size q C b mf md M w0 A n c ls us v bg (nsK ls k) (nsK ls k) W)
    (fun W => GoL ls n ∧ ∃ v, LI N w4.heap.size q C b mf md M w0 A n c ls us v bg (nsK ls n) (nsK ls n) W)
    (fun c' W => c' = .exit 0 ∧ ∃ v, LI N w4.heap.size q C b mf md M w0 A n c ls us v bg (takeN ls) (takeN ls) W)
    (fun k W W' row hs hg hr => ⟨hs.1, hs.2.1, by obtain ⟨v, h⟩ := hs.2.2; exact ⟨v, h.turn hg hr⟩⟩)
    (fun _ W W' row hs hg hr => ⟨hs.1, by obtain ⟨v, h⟩ := hs.2; exact ⟨v, h.turn hg hr⟩⟩)
    (fun c' W W' row hs hg hr => ⟨hs.1, by obtain ⟨v, h⟩ := hs.2; exact ⟨v, h.turn hg hr⟩⟩)
    (fun k W hs => by
      obtain ⟨h1, h2, v, h3⟩ := hs
      exact ⟨h1, h3.bc.cell 0, h3.rws, by have := h3.size; have := h3.lo; omega⟩)
    (fun k W W' hs hx i o hi ho => by
      rcases hx with ⟨x, hx⟩ | hz
      · exact (hx.2.block i (Array.getElem?_eq_some_iff.1 hi).1).trans hi
      · rw [hz.2]; exact hi)
    (fun k x W W' hs hx => ⟨hx.1, hs.2.1, by obtain ⟨v, h⟩ := hs.2.2; exact ⟨v, h.next hx.2⟩⟩)
    (fun k W W' hs hz => by
      obtain ⟨rfl, rfl⟩ := hz
      exact hs.2)
    ⟨Nat.zero_le _, GoL.zero ls, _, HLI0.out⟩
    (fun k _ a' W => LA N w4.heap.size q C b mf md M w0 A n c ls us bg (fun rb => { tmps := #[.pointer (some ⟨b, 0, none⟩), .slice A n c, .pointer (some ⟨q, 0, none⟩), undef, .pointer (some ⟨rb, 0, none⟩), .int .i64 (decErrN (ls.getD k [])), .slice A n c, .func (.func 57) #[] #[.pointer (some ⟨C, 0, none⟩)], nv (decN (ls.getD k [])), .int .i64 (decErrN (ls.getD k [])), undef, undef, undef, undef, undef, undef, undef, undef, undef, undef, undef, undef, undef, undef, undef, undef, undef, undef, undef, undef, undef, undef, undef, undef, undef, undef, undef, undef, undef, undef, undef, undef, undef], defers := [] }) k a' W) (fun k x a' _ W W' row hs hg hr => LA.turn hs hg hr)
    ?assign ?body ?done ?stop
  case assign =>
    intro l k x W K hI hK
    have HK := Lib.hid hK
    have HI := Lib.hid hI
    clear hK hI
    unfold ntAt nv
    gi_wp2
    obtain ⟨h1, h2, v, h3⟩ := HI.out
    refine HK.out _ _ (KeepsFrom.of_grownBy (World.grownBy_alloc W _ none) (fun j e => by cases e)) ⟨h1, h2, v, W.heap.size, h3.next ((Below.refl _ _).alloc (Nat.le_refl _) _), (fun e => by obtain ⟨_, hlt, _⟩ := own_is h3.log.own _ e; omega), h3.size, ?_, Blk.new W _ _⟩
    rfl
  case body =>
    rintro l k x a' W ⟨hlt, hgo, v, rb, hli, hnv, hrb, rfl, hbx⟩
    obtain ⟨p, hp⟩ : ∃ p, ls.getD k [] = p := ⟨_, rfl⟩
    have hkl : k < ls.length := by rw [HLEN.out]; exact hlt
    rw [hp] at hbx ⊢
    have hend := takeN_end hgo hkl
    have hlast := takeN_last hgo hkl
    have hsucc := hgo.succ
    have htake := take_snoc hkl
    rw [hp] at hend hlast hsucc htake
    obtain ⟨⟨tk, ta, tb, tn⟩, hT⟩ : ∃ T, decN p = T := ⟨_, rfl⟩
    unfold nv
    rw [hT] at hbx hlast htake ⊢
    simp only at hbx ⊢
    have HEND := Lib.hid hend
    have HLAST := Lib.hid hlast
    have HSUCC := Lib.hid hsucc
    have HTAKE := Lib.hid htake
    have x0 := hbx.cell 0
    have x1 := hbx.cell 1
    have x2 := hbx.cell 2
    have x3 := hbx.cell 3
    have HLT := Lib.hid hlt
    have HKL := Lib.hid hkl
    have HRB := Lib.hid hrb
    have HNV := Lib.hid hnv
    have HLI := Lib.hid hli
    have HBX := Lib.hid hbx
    by_cases hge : endsN p = true
    case pos =>
      have hq2 : decErrN p = 90 ∨ (decErrN p = 0 ∧ tk = 1) := by
        unfold endsN at hge
        rw [Bool.or_eq_true] at hge
        unfold decErrN
        rcases hge with h1 | h1
        · left
          rw [if_neg (by rw [Bool.not_eq_true'] at h1; rw [h1]; decide)]
        · by_cases hg : goodN p = true
          · right
            rw [if_pos hg]
            exact ⟨rfl, by have := of_decide_eq_true h1; rw [hT] at this; exact this⟩
          · left
            rw [if_neg hg]
      have HFIN : Hid (KeepsFrom w4.heap.size W W ∧ ∃ v, LI N w4.heap.size q C b mf md M w0 A n c ls us v bg (takeN ls) (takeN ls) W) := Lib.hid ⟨⟨Nat.le_refl _, fun i o _ hi _ => hi⟩, v, by rw [HEND.out hge]; exact hli⟩
      generalize decErrN p = E at *
      clear hli hbx hend hlast hsucc htake hge hT hp hlt hkl hrb hnv
      rcases hq2 with rfl | ⟨rfl, rfl⟩
      · gi_wp2
        exact ⟨HFIN.out.1, rfl, HFIN.out.2⟩
      · gi_wp2
        exact ⟨HFIN.out.1, rfl, HFIN.out.2⟩
    case neg =>
      have hge : endsN p = false := Bool.eq_false_iff.2 hge
      obtain ⟨hgood, hok⟩ := ends_not hge
      have hE0 : decErrN p = 0 := by unfold decErrN; rw [if_pos hgood]
      rw [hT] at hok
      have hk2 : 2 ≤ tk := hok.2.2
      have hk5 : tk ≤ 5 := (ok_kind hok.1).2
      have hk1 : (tk == 1) = false := by rw [beq_eq_false_iff_ne]; omega
      have hlf : lastN p = false ↔ (tk = 2 ∨ tk = 3) := by have := last_iff (p := p); rw [hT] at this; exact this
      rw [hE0]
      obtain ⟨W6, hW6⟩ : ∃ W6, W.drew.alloc (.cells #[.int .i64 tk, .int .i64 ta, .int .i64 tb, .int .i64 tn] 23) = W6 := ⟨_, rfl⟩
      have k6 : Below W.heap.size W W6 := by rw [← hW6]; exact (Below.refl _ W).drew.alloc (Nat.le_refl _) _
      have hu6 : ∀ j u, (nc ⟨tk, ta, tb, tn⟩)[j]? = some u → W6.cell? ((⟨W.heap.size, 0, none⟩ : Addr).add j) = some u := by
        intro j u hu
        have hb6 : Blk W6 W.heap.size 23 #[.int .i64 tk, .int .i64 ta, .int .i64 tb, .int .i64 tn] := by rw [← hW6]; exact Blk.new W.drew _ _
        have e : (⟨W.heap.size, 0, none⟩ : Addr).add j = ⟨W.heap.size, j, none⟩ := by unfold Addr.add; split <;> simp_all
        rw [e, hb6.cell j]
        unfold nc at hu
        simpa using hu
      have hlog := hli.log
      obtain ⟨A1, c1, rfl⟩ := own_slice4 hlog.own
      obtain ⟨v', W7, hrun, hlog10, hb6, hb7, kA, kB, ⟨A9, c9, rfl⟩, hat⟩ := hlog.push k6 39 ⟨W.heap.size, 0, none⟩ 1 ⟨tk, ta, tb, tn⟩ hok hu6 (by rw [nsK_len (by omega)]; have := HBIG.out; omega)
      obtain ⟨n1, hn1⟩ : ∃ n1, (nsK ls k).length = n1 := ⟨_, rfl⟩
      rw [hn1] at hrun hlog10 hb6 hb7 kA kB hnv hlog hat HNV HLI
      obtain ⟨W10, hW10⟩ : ∃ W10, W7.setCell ⟨b, 2, none⟩ (.slice A9 (n1 + 1) c9) = W10 := ⟨_, rfl⟩
      rw [hW10] at hlog10 kB
      obtain ⟨vo, hvo⟩ : ∃ vo, (Value.slice A1 n1 c1).ownBlock = vo := ⟨_, rfl⟩
      rw [hvo] at kA kB hnv
      have hlib : LI N w4.heap.size q C b mf md M w0 A n c ls us (.slice A1 n1 c1) bg (nsK ls k) (nsK ls k) W := by rw [← hn1]; rw [hn1]; exact HLI.out
      have nob : ∀ {g t cs}, Blk W g t cs → t ≠ 23 → ¬ vo = some g := fun hb ht => by rw [← hvo]; exact own_blk_ne hlib.log.own hb (fun e => ht e.symm)
      have noB : ∀ {g t cs}, Blk W g t cs → t ≠ 23 → t ≠ 71 → ¬ (vo = some g ∨ g = b) := fun hb ht ht2 e => by
        rcases e with e | rfl
        · exact nob hb ht e
        · exact ht2 (hb.typ.ne hlib.log.blk.typ)
      have hrbb : ¬ rb = b := fun e => absurd ((e ▸ hbx).typ.ne hlib.log.blk.typ) (by decide)
      have hq10 : Blk W10 q 37 #[.pointer (some ⟨b, 0, none⟩)] := kB.blk hlib.bj (noB hlib.bj (by decide) (by decide))
      have hx10 : Blk W10 rb 23 #[.int .i64 tk, .int .i64 ta, .int .i64 tb, .int .i64 tn] := kB.blk hbx (fun e => e.elim hnv hrbb)
      have hloN : ∀ i, (vo = some i ∨ i = b) → N ≤ i := fun i e => by
        rcases e with e | rfl
        · exact (own_is hlib.log.own i (by rw [hvo]; exact e)).1
        · exact hlib.log.lo.1
      have hli10 : LI N w4.heap.size q C b mf md M w0 A n c ls us (.slice A9 (n1 + 1) c9) bg (nsK ls k ++ [⟨tk, ta, tb, tn⟩]) (nsK ls k) W10 := hlib.log_turned kB hloN (noB hlib.bj (by decide) (by decide)) (noB hlib.bc (by decide) (by decide)) hlog10
      have kf10 : KeepsFrom w4.heap.size W W10 := keepsFrom_cl kB (fun i e => .inl (by
        rcases e with e | rfl
        · obtain ⟨_, _, cur, hc⟩ := own_is hlib.log.own i (by rw [hvo]; exact e)
          exact cl_blk hc
        · exact cl_blk hlib.log.blk))
      have hbW := hlib.log.blk
      have HC0 : Hid (∀ dn : Nat → Bool, (pick4 W.drew W6 W7 W10 6 7 10 dn).cell? ⟨q, 0, none⟩ = some (.pointer (some ⟨b, 0, none⟩))) := Lib.hid (pick4_all (P := fun X => X.cell? ⟨q, 0, none⟩ = some (.pointer (some ⟨b, 0, none⟩))) (hlib.bj.cell 0) ((hlib.bj.below k6 hlib.bj.lt).cell 0) ((kA.blk hlib.bj (nob hlib.bj (by decide))).cell 0) (hq10.cell 0))
      have HC2 : Hid (∀ dn : Nat → Bool, dn 10 = false → (pick4 W.drew W6 W7 W10 6 7 10 dn).cell? ⟨b, 2, none⟩ = some (.slice A1 n1 c1)) := Lib.hid (fun dn h10 => by
        unfold pick4
        rw [h10]
        simp only [Bool.false_eq_true, if_false]
        split
        · exact hb7.cell 2
        · split
          · exact hb6.cell 2
          · exact hbW.cell 2)
      have HG3 : Hid (W7.cell? ⟨b, 2, none⟩ = some (.slice A1 n1 c1) ∧ W7.frozen? ⟨b, 2, none⟩ = false) := Lib.hid ⟨hb7.cell 2, hb7.frozen 2⟩
      have HRUN := Lib.hid hrun
      have HW6 := Lib.hid hW6
      have HW10 := Lib.hid hW10
      have HLI10 := Lib.hid hli10
      have HKF := Lib.hid kf10
      have HOK := Lib.hid hok
      have HLF := Lib.hid hlf
      have HGE := Lib.hid hge
      have HQ10 := Lib.hid hq10
      have HX10 := Lib.hid hx10
      have HK5 := Lib.hid (And.intro hk2 hk5)
      clear hli hbx hend hlast hsucc htake hge hT hp hlt hkl hrb hnv hgood hok hE0 hk2 hk5 hlf hW6 k6 hu6 hlog hrun hlog10 hb6 hb7 kA kB hat hn1 hW10 hvo hlib hrbb hq10 hx10 hloN hli10 kf10 hbW HNV HLI HBX
      gi_wp2
      refine wpIn_region_done_mute_on (fun ⟨_, _, h⟩ => h) (fun dn X => X = pick4 W.drew W6 W7 W10 6 7 10 dn ∧ (dn 7 = true → dn 6 = true) ∧ (dn 10 = true → dn 7 = true)) (fun dn i v _ => v = ([.pointer (some ⟨b, 0, none⟩), .pointer (some ⟨b, 0, none⟩), .pointer (some ⟨b, 0, none⟩), .pointer (some ⟨b, 2, none⟩), .slice A1 n1 c1, .agg #[.int .i64 tk, .int .i64 ta, .int .i64 tb, .int .i64 tn], .slice (some ⟨W.heap.size, 0, none⟩) 1 1, .slice A9 (n1 + 1) c9, .pointer (some ⟨b, 0, none⟩), .pointer (some ⟨b, 2, none⟩)] : List Value).getD i undef ∧ (i = 6 → dn 6 = true) ∧ (i = 7 → dn 7 = true)) (by kernel_rfl) (by intro o ho; simp only [List.mem_toArray, List.mem_cons, List.not_mem_nil, or_false] at ho; rcases ho with rfl | rfl | rfl | rfl | rfl | rfl | rfl | rfl | rfl | rfl | rfl <;> first | exact mute_load rfl | exact mute_nilCheck rfl | exact mute_fieldAddr rfl | exact mute_buildSlice rfl | exact mute_append rfl | exact mute_store rfl) 43 rfl (by kernel_rfl) (⟨rfl, fun e => e, fun e => e⟩) ?_ ?_
      · intro i hi
        have hi2 : i < 11 := hi
        clear hi
        rcases i with _ | i
        · refine done_value (fun _ _ h => h) (fun dn j u w h => ⟨h.1, fun e => by have := h.2.1 e; simp [upd, this], fun e => by have := h.2.2 e; simp [upd, this]⟩) (.pointer (some ⟨b, 0, none⟩)) rfl ?_
          intro dn a8 w8 hS ho hn
          have o2 : a8.tmps[2]? = some _ := (ho 2 (by kernel_rfl)).trans rfl
          clear ho hn
          refine ⟨wanted_free rfl, ?_, rfl, fun e => absurd e (by decide), fun e => absurd e (by decide)⟩
          have h1 := HC0.out dn
          have hS2 : w8 = pick4 W.drew W6 W7 W10 6 7 10 dn := hS.1
          subst hS2
          clear hS
          go_simp
        rcases i with _ | i
        · refine done_value (fun _ _ h => h) (fun dn j u w h => ⟨h.1, fun e => by have := h.2.1 e; simp [upd, this], fun e => by have := h.2.2 e; simp [upd, this]⟩) (.pointer (some ⟨b, 0, none⟩)) rfl ?_
          intro dn a8 w8 hS ho hn
          have o2 : a8.tmps[2]? = some _ := (ho 2 (by kernel_rfl)).trans rfl
          clear ho hn
          refine ⟨wanted_free rfl, ?_, rfl, fun e => absurd e (by decide), fun e => absurd e (by decide)⟩
          have h1 := HC0.out dn
          have hS2 : w8 = pick4 W.drew W6 W7 W10 6 7 10 dn := hS.1
          subst hS2
          clear hS
          go_simp
        rcases i with _ | i
        · refine done_value (fun _ _ h => h) (fun dn j u w h => ⟨h.1, fun e => by have := h.2.1 e; simp [upd, this], fun e => by have := h.2.2 e; simp [upd, this]⟩) (.pointer (some ⟨b, 0, none⟩)) rfl ?_
          intro dn a8 w8 hS ho hn
          obtain ⟨_, n18, rfl, fa18⟩ := hn 1 18 (by kernel_rfl) rfl
          clear ho hn
          refine ⟨wanted_free rfl, ?_, rfl, fun e => absurd e (by decide), fun e => absurd e (by decide)⟩
          go_simp
        rcases i with _ | i
        · refine done_value (fun _ _ h => h) (fun dn j u w h => ⟨h.1, fun e => by have := h.2.1 e; simp [upd, this], fun e => by have := h.2.2 e; simp [upd, this]⟩) (.pointer (some ⟨b, 2, none⟩)) rfl ?_
          intro dn a8 w8 hS ho hn
          obtain ⟨_, n19, rfl, fa19⟩ := hn 2 19 (by kernel_rfl) rfl
          clear ho hn
          refine ⟨wanted_free rfl, ?_, rfl, fun e => absurd e (by decide), fun e => absurd e (by decide)⟩
          go_simp
        rcases i with _ | i
        · refine done_read (fun _ _ h => h) (fun dn j u w h => ⟨h.1, fun e => by have := h.2.1 e; simp [upd, this], fun e => by have := h.2.2 e; simp [upd, this]⟩) (.slice A1 n1 c1) rfl ?_
          intro dn a8 w8 hS hx ho hn
          obtain ⟨_, n20, rfl, fa20⟩ := hn 3 20 (by kernel_rfl) rfl
          clear ho hn
          refine ⟨wanted_free rfl, ?_, rfl, fun e => absurd e (by decide), fun e => absurd e (by decide)⟩
          have h7 : dn 7 = false := hx 7 (by kernel_rfl)
          have h10 : dn 10 = false := Bool.eq_false_iff.2 (fun e => (by have h0 := hS.2.2 e; rw [h7] at h0; cases h0))
          have h1 := HC2.out dn h10
          have hS2 : w8 = pick4 W.drew W6 W7 W10 6 7 10 dn := hS.1
          subst hS2
          clear hS
          go_simp
        rcases i with _ | i
        · refine done_read (fun _ _ h => h) (fun dn j u w h => ⟨h.1, fun e => by have := h.2.1 e; simp [upd, this], fun e => by have := h.2.2 e; simp [upd, this]⟩) (.agg #[.int .i64 tk, .int .i64 ta, .int .i64 tb, .int .i64 tn]) rfl ?_
          intro dn a8 w8 hS hx ho hn
          have o4 : a8.tmps[4]? = some _ := (ho 4 (by kernel_rfl)).trans rfl
          clear ho hn
          refine ⟨wanted_free rfl, ?_, rfl, fun e => absurd e (by decide), fun e => absurd e (by decide)⟩
          have h6 : dn 6 = false := hx 6 (by kernel_rfl)
          have h7 : dn 7 = false := Bool.eq_false_iff.2 (fun e => (by have h0 := hS.2.1 e; rw [h6] at h0; cases h0))
          have h10 : dn 10 = false := Bool.eq_false_iff.2 (fun e => (by have h0 := hS.2.2 e; rw [h7] at h0; cases h0))
          have hS2 : w8 = W.drew := by { have h : w8 = pick4 W.drew W6 W7 W10 6 7 10 dn := hS.1; unfold pick4 at h; rw [h10, h7, h6] at h; exact h }
          subst hS2
          clear hS
          go_simp
        rcases i with _ | i
        · refine done_make rfl ?_
          intro dn a8 w8 hS hd hx ho hn
          obtain ⟨_, n22, rfl, fa22⟩ := hn 5 22 (by kernel_rfl) rfl
          clear ho hn
          refine ⟨wanted_free rfl, ?_⟩
          have h6 : dn 6 = false := hd
          have h7 : dn 7 = false := Bool.eq_false_iff.2 (fun e => (by have h0 := hS.2.1 e; rw [h6] at h0; cases h0))
          have h10 : dn 10 = false := Bool.eq_false_iff.2 (fun e => (by have h0 := hS.2.2 e; rw [h7] at h0; cases h0))
          have i7 := hS.2.1
          have i10 := hS.2.2
          have hS2 : w8 = W.drew := by { have h : w8 = pick4 W.drew W6 W7 W10 6 7 10 dn := hS.1; unfold pick4 at h; rw [h10, h7, h6] at h; exact h }
          subst hS2
          refine ⟨.slice (some ⟨W.heap.size, 0, none⟩) 1 1, W6, (by rw [← HW6.out]; clear hS i7 i10; go_simp), ⟨(by show W6 = pick4 W.drew W6 W7 W10 6 7 10 (upd dn 6); unfold pick4; rw [show upd dn 6 10 = false from h10, show upd dn 6 7 = false from h7, show upd dn 6 6 = true from rfl]; rfl), fun _ => rfl, i10⟩, ⟨rfl, fun _ => rfl, fun e => absurd e (by decide)⟩, fun j u _ _ h => ⟨h.1, fun e => by have := h.2.1 e; simp [upd, this], fun e => by have := h.2.2 e; simp [upd, this]⟩⟩
        rcases i with _ | i
        · refine done_make rfl ?_
          intro dn a8 w8 hS hd hx ho hn
          obtain ⟨_, n21, rfl, fa21⟩ := hn 4 21 (by kernel_rfl) rfl
          obtain ⟨_, n23, hR23⟩ := hn 6 23 (by kernel_rfl) rfl
          clear ho hn
          refine ⟨wanted_free rfl, ?_⟩
          obtain ⟨rfl, fa6, _⟩ := hR23
          have h6 : dn 6 = true := fa6 rfl
          have h7 : dn 7 = false := hd
          have h10 : dn 10 = false := Bool.eq_false_iff.2 (fun e => (by have h0 := hS.2.2 e; rw [h7] at h0; cases h0))
          have i7 := hS.2.1
          have i10 := hS.2.2
          have hS2 : w8 = W6 := by { have h : w8 = pick4 W.drew W6 W7 W10 6 7 10 dn := hS.1; unfold pick4 at h; rw [h10, h7, h6] at h; exact h }
          subst hS2
          exact ⟨.slice A9 (n1 + 1) c9, W7, exec_append _ _ 39 rfl (eval_of n21) (eval_of n23) HRUN.out, ⟨(by show W7 = pick4 W.drew w8 W7 W10 6 7 10 (upd dn 7); unfold pick4; rw [show upd dn 7 10 = false from h10, show upd dn 7 7 = true from rfl]; rfl), fun _ => h6, fun _ => rfl⟩, ⟨rfl, fun e => absurd e (by decide), fun _ => rfl⟩, fun j u _ _ h => ⟨h.1, fun e => by have := h.2.1 e; simp [upd, this], fun e => by have := h.2.2 e; simp [upd, this]⟩⟩
        rcases i with _ | i
        · refine done_value (fun _ _ h => h) (fun dn j u w h => ⟨h.1, fun e => by have := h.2.1 e; simp [upd, this], fun e => by have := h.2.2 e; simp [upd, this]⟩) (.pointer (some ⟨b, 0, none⟩)) rfl ?_
          intro dn a8 w8 hS ho hn
          obtain ⟨_, n17, rfl, fa17⟩ := hn 0 17 (by kernel_rfl) rfl
          clear ho hn
          refine ⟨wanted_free rfl, ?_, rfl, fun e => absurd e (by decide), fun e => absurd e (by decide)⟩
          go_simp
        rcases i with _ | i
        · refine done_value (fun _ _ h => h) (fun dn j u w h => ⟨h.1, fun e => by have := h.2.1 e; simp [upd, this], fun e => by have := h.2.2 e; simp [upd, this]⟩) (.pointer (some ⟨b, 2, none⟩)) rfl ?_
          intro dn a8 w8 hS ho hn
          obtain ⟨_, n25, rfl, fa25⟩ := hn 8 25 (by kernel_rfl) rfl
          clear ho hn
          refine ⟨wanted_free rfl, ?_, rfl, fun e => absurd e (by decide), fun e => absurd e (by decide)⟩
          go_simp
        rcases i with _ | i
        · refine done_store rfl rfl ?_
          intro dn a8 w8 hS hd hx ho hn
          obtain ⟨_, n26, rfl, fa26⟩ := hn 9 26 (by kernel_rfl) rfl
          obtain ⟨_, n24, hR24⟩ := hn 7 24 (by kernel_rfl) rfl
          clear ho hn
          refine ⟨wanted_free rfl, ?_⟩
          obtain ⟨rfl, _, fa7⟩ := hR24
          have h10 : dn 10 = false := hd
          have h7 : dn 7 = true := fa7 rfl
          have i7 := hS.2.1
          have i10 := hS.2.2
          have hS2 : w8 = W7 := by { have h : w8 = pick4 W.drew W6 W7 W10 6 7 10 dn := hS.1; unfold pick4 at h; rw [h10, h7] at h; exact h }
          clear hS
          obtain ⟨g3, f3⟩ := HG3.out
          rw [← hS2] at g3 f3
          refine ⟨W10, (by rw [← HW10.out, ← hS2]; clear hS2 i7 i10; go_simp), ⟨(by show W10 = pick4 W.drew W6 W7 W10 6 7 10 (upd dn 10); unfold pick4; rw [show upd dn 10 10 = true from rfl]; rfl), i7, fun _ => h7⟩, ⟨rfl, fun e => absurd e (by decide), fun e => absurd e (by decide)⟩, fun j u _ _ h => ⟨h.1, fun e => by have := h.2.1 e; simp [upd, this], fun e => by have := h.2.2 e; simp [upd, this]⟩⟩
        omega
      · intro done fv w5 hS5 hR5 hall
        obtain rfl : w5 = W10 := by
          have h : w5 = pick4 W.drew W6 W7 W10 6 7 10 done := hS5.1
          unfold pick4 at h
          rw [hall 10 (by decide)] at h
          exact h
        simp only [putAll, List.foldl_cons, List.foldl_nil, Act.put, List.setIfInBounds_toArray, List.set_cons_succ, List.set_cons_zero]
        clear hR5 hS5 hall HC0 HC2 HG3 HRUN HW6 HW10 x0 x1 x2 x3 hk1 nob noB
        have y0 := HX10.out.cell 0
        have y1 := HX10.out.cell 1
        have y2 := HX10.out.cell 2
        have y3 := HX10.out.cell 3
        have q0 := HQ10.out.cell 0
        have HNS : Hid (nsK ls k ++ [⟨tk, ta, tb, tn⟩] = nsK ls (k + 1)) := Lib.hid HTAKE.out.symm
        have hfw : (Fence.wide.inRound l).fn 52 := trivial
        by_cases h23 : tk = 2 ∨ tk = 3
        · have HCO := Lib.hid (lcomplete_any HLI10.out.log ⟨tk, ta, tb, tn⟩ HOK.out h23 (by rw [nsK_len (by have := HKL.out; omega)]; have := HBIG.out; have := HLT.out; omega))
          have HGO := Lib.hid (HSUCC.out HGE.out (HLF.out.2 h23))
          have HAFT : Hid (∀ w6, LogN N w6 b mf md (.slice A9 (n1 + 1) c9) bg (nsK ls k ++ [⟨tk, ta, tb, tn⟩]) (nsK ls k ++ [⟨tk, ta, tb, tn⟩]) → Keep (fun i => i = b ∨ i = mf ∨ i = md) w5 w6 → KeepsFrom w4.heap.size W w6 ∧ k + 1 ≤ n ∧ GoL ls (k + 1) ∧ ∃ v, LI N w4.heap.size q C b mf md M w0 A n c ls us v bg (nsK ls (k + 1)) (nsK ls (k + 1)) w6) := Lib.hid (fun w6 hl6 k6 => by
            have hli := HLI10.out
            have hm := hli.log.maps
            have hlo := hli.log.lo
            refine ⟨HKF.out.trans (keepsFrom_cl k6 (fun i e => ?_)), HLT.out, HGO.out, .slice A9 (n1 + 1) c9, ?_⟩
            · rcases e with rfl | rfl | rfl
              · exact .inl (cl_blk hli.log.blk)
              · exact .inr hli.lo.2.2.2.1
              · exact .inr hli.lo.2.2.2.2.1
            · have a1 : ∀ i, (i = b ∨ i = mf ∨ i = md) → N ≤ i := fun i e => by omega
              have nb : ∀ {g t cs}, Blk w5 g t cs → t ≠ 71 → ¬ (g = b ∨ g = mf ∨ g = md) := fun {g t cs} hb ht e => by
                rcases e with rfl | rfl | rfl
                · exact ht (hb.typ.ne hli.log.blk.typ)
                · exact hm.1 (cl_blk hb)
                · exact hm.2.1 (cl_blk hb)
              have := hli.log_turned k6 a1 (nb hli.bj (by decide)) (nb hli.bc (by decide)) hl6
              rw [← HNS.out]
              exact this)
          clear HLI10
          rcases h23 with rfl | rfl
          · gi_wp2_with (refine ⟨trivial, ?_⟩; gi_at_call 52; refine (CallsIn.inRound l (callsIn_wide.2 HCO.out)).mono ?_; rintro e w6 ⟨⟨u, rfl⟩, hl6, k6⟩; have HW6 := Lib.hid (HAFT.out w6 hl6 k6); clear hl6 k6)
            exact HW6.out
          · gi_wp2_with (refine ⟨trivial, ?_⟩; gi_at_call 52; refine (CallsIn.inRound l (callsIn_wide.2 HCO.out)).mono ?_; rintro e w6 ⟨⟨u, rfl⟩, hl6, k6⟩; have HW6 := Lib.hid (HAFT.out w6 hl6 k6); clear hl6 k6)
            exact HW6.out
        · have hla : lastN p = true := by
            cases hl : lastN p
            · exact absurd (HLF.out.1 hl) h23
            · rfl
          have HFIN : Hid (∃ v, LI N w4.heap.size q C b mf md M w0 A n c ls us v bg (takeN ls) (takeN ls) w5) := Lib.hid (by
            have hli := HLI10.out
            rw [HLAST.out HGE.out hla]
            refine ⟨_, hli.log_turned (Keep.refl (fun _ => False) _) (fun i e => e.elim) (fun e => e) (fun e => e) (hli.log.idle HOK.out h23 (by rw [nsK_len (by have := HKL.out; omega)]; have := HBIG.out; have := HLT.out; omega))⟩)
          have h2 : (tk == 2) = false := by rw [beq_eq_false_iff_ne]; exact fun e => h23 (.inl e)
          have h3 : (tk == 3) = false := by rw [beq_eq_false_iff_ne]; exact fun e => h23 (.inr e)
          clear h23 hla HLI10
          gi_wp2
          exact ⟨HKF.out, rfl, HFIN.out⟩
  case done =>
    rintro D W hD ⟨hgo, v, hli⟩ hK
    have hDl : D < W.heap.size := (Array.getElem?_eq_some_iff.1 hK).1
    have hcl : ¬ Cl W D := fun ⟨t, cs, fr, e⟩ => by rw [hK] at e; cases e
    have hp : Keep (fun k => k = D) W (W.putObj D (.deferred none)) := (Keep.refl _ _).grown (grownBy_putObj' _ D _) (fun k e _ => by injection e with e; exact e.symm)
    have hl2 := hli.keep hp (fun i e => by subst e; have := hli.lo; exact ⟨hcl, by omega, by omega, by omega⟩)
    have HL2 : Hid (Loaded N b mf md w0 (takeN ls) bg (W.putObj D (.deferred none))) := Lib.hid ⟨hl2.below, v, by
      rw [takeN_all hgo HLEN.out]
      exact hl2.log⟩
    have HK := Lib.hid hK
    clear hli hp hcl hgo hK hl2
    gi_wp2
    refine ⟨by simp, .inl ⟨_, _, rfl, run_takeDeferred HK.out, ?_⟩⟩
    exact ⟨_, results_none rfl _ _ _, ⟨_, rfl⟩, HL2.out⟩
  case stop =>
    rintro D c' W hD ⟨rfl, v, hli⟩ hK
    have hDl : D < W.heap.size := (Array.getElem?_eq_some_iff.1 hK).1
    have hcl : ¬ Cl W D := fun ⟨t, cs, fr, e⟩ => by rw [hK] at e; cases e
    have hp : Keep (fun k => k = D) W (W.putObj D (.deferred none)) := (Keep.refl _ _).grown (grownBy_putObj' _ D _) (fun k e _ => by injection e with e; exact e.symm)
    have hl2 := hli.keep hp (fun i e => by subst e; have := hli.lo; exact ⟨hcl, by omega, by omega, by omega⟩)
    have HL2 : Hid (Loaded N b mf md w0 (takeN ls) bg (W.putObj D (.deferred none))) := Lib.hid ⟨hl2.below, v, hl2.log⟩
    have HK := Lib.hid hK
    clear hli hp hcl hK hl2
    gi_wp2
    refine ⟨by simp, .inl ⟨_, _, rfl, run_takeDeferred HK.out, ?_⟩⟩
    exact ⟨_, results_none rfl _ _ _, ⟨_, rfl⟩, HL2.out⟩
end
end Go.Proofs.Ytdjneiboeehclaa.note

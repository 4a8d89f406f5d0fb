/-
  Layer 8 without any program: what JournalNames finds on its disk; a sector of which no byte may be turned.
-/
import Derived.Test.YtddhldmeknmgpaaJAlive
namespace Go.Proofs.Ytddhldmeknmgpaa.journalNames
open Go.RowKit Go.Proofs.Ytddhldmeknmgpaa.crc Go.Proofs.Ytddhldmeknmgpaa.root Go.Proofs.Ytddhldmeknmgpaa.journal

def nX : List UInt8 := sectJ ⟨5, 1, [120, 121, 122]⟩
theorem nX_len : nX.length = 128 := sectJ_length (by decide)
theorem nX_front : nX.take 23 = [81, 74, 1, 3, 0, 0, 0, 0, 0, 0, 0, 5, 0, 0, 0, 0, 0, 0, 0, 1, 120, 121, 122] := by decide +kernel
set_option maxRecDepth 100000 in
theorem nX_turned : ∀ i : Fin 128, goodJ (nX.set i.val (nX.getD i.val 0 ^^^ 1)) = false := by decide +kernel

def aS3 : List (List UInt8) := aS2.set 3 (sectJ ⟨7, 3, List.replicate 64 0⟩)
theorem aS3_len : aS3.length = 4 := by unfold aS3; rw [List.length_set, aS2_len]
theorem ls_other : openL (flat aS2 2) 1 3 8 = [] := openL_is (a := 1) (by rw [aS2_len]; decide) (by rw [aS2_len]; decide) (by decide) (fun l h => by cases h) (OnDisk.nil _ _ _) (by decide) (fun _ => by
  have h := a_on2 0 [97] rfl
  show validJ 8 0 (aS2.getD (1 + 0) []) = false
  rw [h, validJ_sect (okJ_iff.2 ⟨by decide, by decide⟩) ⟨by decide, by decide⟩]
  decide)
theorem ls_late : openL (flat aS2 2) 2 2 7 = [] := openL_is (a := 2) (by rw [aS2_len]; decide) (by rw [aS2_len]; decide) (by decide) (fun l h => by cases h) (OnDisk.nil _ _ _) (by decide) (fun _ => by
  have h := a_on2 1 [98, 99] rfl
  show validJ 7 0 (aS2.getD (1 + 1) []) = false
  rw [h, validJ_sect (okJ_iff.2 ⟨by decide, by decide⟩) ⟨by decide, by decide⟩]
  decide)
theorem e_other : openE (flat aS2 2) 1 (3 : Nat) = 0 := a_open2
theorem e_late : openE (flat aS2 2) 2 (2 : Nat) = 0 := open_flat (a := 2) (by decide) (by rw [aS2_len]; decide) (by rw [aS2_len]; decide)
theorem e_far : openE (flat aS3 3) 1 4 = 30 := by
  have h0 : ∀ k : Nat, k < 4 → adr 1 k = ((1 + k : Nat) : Int) := fun k hk => by rw [adr_small (by decide) (by omega)]; omega
  have e : errP (fun k => readErr3 (flat aS3 3) (adr 1 k)) 4 = readErr3 (flat aS3 3) (adr 1 3) := errP_first (e := fun k => readErr3 (flat aS3 3) (adr 1 k)) (k := 3) (fun i hi => by
    show readErr3 (flat aS3 3) (adr 1 i) = 0
    rw [h0 i (by omega)]
    exact flat_err aS3 3 (1 + i) (by rw [aS3_len]; omega)) (by
    show readErr3 (flat aS3 3) (adr 1 3) ≠ 0
    rw [h0 3 (by decide)]
    unfold readErr3 has3 flat
    rw [aS3_len]
    decide) (by decide)
  unfold openE
  rw [if_neg (by decide)]
  show errP (fun k => readErr3 (flat aS3 3) (adr 1 k)) 4 = 30
  rw [e, h0 3 (by decide)]
  unfold readErr3 has3 flat
  rw [aS3_len]
  decide
theorem e_none : openE (flat aS3 3) 0 0 = 80 := by unfold openE; rw [if_pos (by decide)]
theorem e_neg : openE (flat aS3 3) (-1) 2 = 80 := by unfold openE; rw [if_pos (by decide)]

/-- What another journal's Append leaves a journal that was opened later. -/
theorem later_keep {N N2 b bo : Nat} {w0 w w' : World} {d : DAt} {s : RSt} {p po : Option Addr} {pv pvo : Value} {vs vso : List Value} {j jo : JS} (L : Lives N w0 w d s) (J : JAt N w b p pv vs j) (Jo : JAt N2 w bo po pvo vso jo) (hb : b < N2) (hr : ∀ g, pv.ownBlock = some g → g < N2) (hk : Keep (fun i => d.foot i ∨ i = b ∨ pv.ownBlock = some i) w w') : JAt N2 w' bo po pvo vso jo := by
  obtain ⟨kv, hd⟩ := L.dk
  have hrow := own_typ2 J.own
  have hrow2 := own_typ2 Jo.own
  refine Jo.keep hk (fun e => ?_) (fun g e1 e => ?_) (fun k e t => ?_)
  · rcases e with e | e | e
    · exact hd.foot_not e Jo.blk.typ (by decide) (by decide)
    · have := Jo.lo; omega
    · have := hr _ e; have := Jo.lo; omega
  · have hlo := (Jo.own.lt g e1).1
    rcases e with e | e | e
    · exact hd.foot_not e (hrow2 g e1).1 (by decide) (by decide)
    · omega
    · have := hr _ e; omega
  · rcases e with e | e | e
    · exact (hd.foot_typ k e).2 t
    · subst e; exact absurd (t.ne J.blk.typ) (by decide)
    · exact absurd (t.ne (hrow k e).1) (by decide)

theorem japp_idle (w : World) (q : Option Addr) (A : Option Addr) (n c : Nat) (h : Idle w q) : Calls Try.prog 15 #[.pointer q, .slice A n c] w fun e w' => e = .returned (.int .i64 1) ∧ w = w' := by
  have HV := Lib.hid (jvalid_idle w q h)
  clear h
  go_enter Try.func15, Try.ntmps15
  go_wp2_with (go_at_call 37; refine HV.out.mono ?_; rintro e _ ⟨rfl, rfl⟩)
  go_ret
  exact ⟨rfl, rfl⟩

/-- What lives while JournalNames goes on: the disk, the journal, and two others that have nothing. -/
structure NB (N : Nat) (w0 w : World) (d : DAt) (S : List (List UInt8)) (m : Nat) (N2 b : Nat) (pv : Value) (vs : List Value) (ls : List (List UInt8)) (bo : Nat) (pvo : Value) (vso : List Value) (bl : Nat) (pvl : Value) (vsl : List Value) : Prop where
  l : Lives N w0 w d (flat S m)
  j : JAt N w b (some ⟨d.b, 0, none⟩) pv vs ⟨1, 3, 7, ls⟩
  o : JAt N2 w bo (some ⟨d.b, 0, none⟩) pvo vso ⟨1, 3, 8, []⟩
  q : JAt N2 w bl (some ⟨d.b, 0, none⟩) pvl vsl ⟨2, 2, 7, []⟩
theorem NB.next {N : Nat} {w0 w w' : World} {d : DAt} {S : List (List UInt8)} {m N2 b : Nat} {pv : Value} {vs : List Value} {ls : List (List UInt8)} {bo : Nat} {pvo : Value} {vso : List Value} {bl : Nat} {pvl : Value} {vsl : List Value} (h : NB N w0 w d S m N2 b pv vs ls bo pvo vso bl pvl vsl) (hb : Below w.heap.size w w') : NB N w0 w' d S m N2 b pv vs ls bo pvo vso bl pvl vsl :=
  ⟨h.l.next h.l.lt hb, h.j.below hb, h.o.below hb, h.q.below hb⟩
theorem fit3 {ls : List (List UInt8)} {ep : Nat} (h : ls.length ≤ 3) (he : ep < 18446744073709551616) : (⟨1, 3, ep, ls⟩ : JS).Fit := ⟨h, (show 1 ≤ 3 by decide), (show (0 : Int) ≤ 1 by decide), (show (1 : Int) + ((3 : Nat) : Int) ≤ 4096 by decide), he⟩
theorem fit2 : (⟨2, 2, 7, []⟩ : JS).Fit := ⟨by decide, by decide, by decide, by decide, by decide⟩
end Go.Proofs.Ytddhldmeknmgpaa.journalNames

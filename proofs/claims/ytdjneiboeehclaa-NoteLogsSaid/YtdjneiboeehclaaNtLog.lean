/-
  The log of layer 9: how it lies; the calls that look: valid, Begun, Notes, Tile, Run, Done, Steps.
-/
import Derived.Test.YtdjneiboeehclaaNtKeys
import Derived.Test.YtdjneiboeehclaaDone
namespace Go.Proofs.Ytdjneiboeehclaa.note
open Go.RowKit Go.Maps Go.Proofs.Ytdjneiboeehclaa.crc Go.Proofs.Ytdjneiboeehclaa.root

theorem infoNote : (Try.prog.info? 23).map (fun i => (i.zero, i.size, i.bytes)) = some (some (.agg #[.int .i64 0, .int .i64 0, .int .i64 0, .int .i64 0]), 4, 32) := by kernel_rfl
theorem own_slice4 {w : World} {base e size n : Nat} {v : Value} {xs : List Value} (h : w.ownsRow base e size v n xs) : ∃ A c, v = .slice A n c := by
  rcases h.2 with ⟨e, h0⟩ | ⟨g, cap, cur, e, _⟩
  · exact ⟨none, 0, by rw [h0]; exact e⟩
  · exact ⟨_, cap, e⟩
theorem map_keep {w w' : World} {S : Nat → Prop} {P : Program} {k : TypeId} {R : Value → Option (DataW Unit × List MemPlace)} {b n : Nat} {D : DataW Unit} (h : w.ownsMap P k R b n D) (hk : Keep S w w') (hb : ¬ S b) : w'.ownsMap P k R b n D := by
  have hlt := h.lt
  obtain ⟨es, clock, h1, h2⟩ := h
  exact ⟨es, clock, (hk.block b hlt hb).trans h1, h2⟩

/-- What the maps hold of the notes fs. -/
def Files (D : DataW Unit) (fs : List NV) : Prop := ∀ k s p : Int, (k = 2 ∨ k = 3) → i64ok s → i64ok p → Maps.has D (keyP k s p) = (fileN fs k s p).isSome ∧ D.atKey (keyP k s p) (.lit (.int .i64 0)) = .lit (.int .i64 ((fileN fs k s p).getD 0))
def Dones (E : DataW Unit) (fs : List NV) : Prop := ∀ s : Int, i64ok s → E.atKey (.int .i64 s) (.lit (.int .i64 0)) = .lit (.int .i64 (doneN fs s : Int))
structure LogM (w : World) (mf md : Nat) (fs : List NV) : Prop where
  fil : ∃ D : DataW Unit, w.ownsMap Try.prog 77 (plainElem Try.prog 2) mf fs.length D ∧ Files D fs
  don : ∃ E : DataW Unit, w.ownsMap Try.prog 3 (plainElem Try.prog 3) md fs.length E ∧ Dones E fs

def NotesOk (ns : List NV) : Prop := ∀ x ∈ ns, okN x = true ∧ x.Fine ∧ 2 ≤ x.k
/-- A log at b, made since N: it has the notes ns, and its maps hold what fs tell. -/
structure LogN (N : Nat) (w : World) (b mf md : Nat) (v : Value) (bg : Bool) (ns fs : List NV) : Prop where
  blk : Blk w b 71 #[.pointer (some ⟨b, 0, none⟩), .bool bg, v, .map (some mf), .map (some md), .int .i64 (stepsN fs)]
  own : w.ownsRow N 23 4 v ns.length (ns.flatMap nc)
  m : LogM w mf md fs
  lo : N ≤ b ∧ N ≤ mf ∧ N ≤ md
  ne : mf ≠ md
  ok : NotesOk ns
  fok : NotesOk fs
  few : ns.length ≤ 100000 ∧ fs.length ≤ 100000

section
variable {N b mf md : Nat} {w w' : World} {v : Value} {bg : Bool} {ns fs : List NV}

theorem LogM.keep {S : Nat → Prop} (h : LogM w mf md fs) (hk : Keep S w w') (hf : ¬ S mf) (hd : ¬ S md) : LogM w' mf md fs := by
  obtain ⟨⟨D, h1, h2⟩, E, h3, h4⟩ := h
  exact ⟨⟨D, map_keep h1 hk hf, h2⟩, E, map_keep h3 hk hd, h4⟩
theorem LogN.keep {S : Nat → Prop} (h : LogN N w b mf md v bg ns fs) (hk : Keep S w w') (hb : ¬ S b) (hf : ¬ S mf) (hd : ¬ S md) (hv : ∀ g, v.ownBlock = some g → ¬ S g) : LogN N w' b mf md v bg ns fs :=
  ⟨hk.blk h.blk hb, hk.own h.own (fun g e e2 => hv g e e2), h.m.keep hk hf hd, h.lo, h.ne, h.ok, h.fok, h.few⟩
theorem LogN.below (h : LogN N w b mf md v bg ns fs) (hb : Below w.heap.size w w') : LogN N w' b mf md v bg ns fs :=
  h.keep (Keep.of_below (S := fun _ => False) hb) (fun e => e) (fun e => e) (fun e => e) (fun _ _ e => e)
/-- Blocks elder than the log may turn. -/
theorem LogN.elder {S : Nat → Prop} (h : LogN N w b mf md v bg ns fs) (hk : Keep S w w') (hS : ∀ k, S k → k < N) : LogN N w' b mf md v bg ns fs :=
  h.keep hk (fun e => by have := hS _ e; have := h.lo.1; omega) (fun e => by have := hS _ e; have := h.lo.2.1; omega) (fun e => by have := hS _ e; have := h.lo.2.2; omega) (fun g e e2 => by have := hS _ e2; have := (own_is h.own g e).1; omega)
theorem LogN.lt (h : LogN N w b mf md v bg ns fs) : b < w.heap.size := h.blk.lt

theorem LogM.file (h : LogM w mf md fs) (k s p : Int) (hk : k = 2 ∨ k = 3) (hs : i64ok s) (hp : i64ok p) :
    (Instr.lookup 68 (.map (some mf)) (pv k s p) true).run Try.prog w = .ok (.tuple #[.int .i64 ((fileN fs k s p).getD 0), .bool (fileN fs k s p).isSome]) w := by
  obtain ⟨⟨D, h1, h2⟩, _⟩ := h
  have hk64 : i64ok k := by unfold i64ok; omega
  obtain ⟨v, ps, hrun, hv⟩ := h1.look_ok keyed_piece Try.underlying68 (zero64 w) (plainElem_int Try.underlying2 (by decide)) (key_piece hk64 hs hp)
  obtain ⟨c, rfl, hc, _⟩ := plainElem_int_inv Try.underlying2 hv
  obtain ⟨e1, e2⟩ := h2 k s p hk hs hp
  have hc1 := congrArg Prod.fst hc
  simp only at hc1
  rw [e2] at hc1
  have hc1 := (Lit.int.inj (DataW.lit.inj hc1)).2
  rw [e1, ← hc1] at hrun
  exact hrun
theorem LogM.done (h : LogM w mf md fs) (s : Int) (hs : i64ok s) :
    (Instr.lookup 69 (.map (some md)) (.int .i64 s) false).run Try.prog w = .ok (.int .i64 (doneN fs s : Int)) w := by
  obtain ⟨_, E, h1, h2⟩ := h
  obtain ⟨c, hrun, hc, _⟩ := h1.lookup_int keyed_int Try.underlying69 Try.underlying3 (zeroI w) (key_int hs)
  rw [h2 s hs] at hc
  have hc := (Lit.int.inj (DataW.lit.inj hc)).2
  rw [← hc] at hrun
  exact hrun

set_option maxRecDepth 100000 in
theorem lvalid_any (h : LogN N w b mf md v bg ns fs) : Calls Try.prog 38 #[.pointer (some ⟨b, 0, none⟩)] w fun e w' => e = .returned (.bool true) ∧ w = w' := by
  have c0 : w.cell? ⟨b, 0, none⟩ = some (.pointer (some ⟨b, 0, none⟩)) := h.blk.cell 0
  obtain ⟨i0, hi0⟩ : ∃ i0, Try.prog.info? 71 = some i0 := Option.isSome_iff_exists.1 (by kernel_rfl)
  have q := fun w => run_eql_ptr_same (P := Try.prog) w (tp := 37) (te := 71) ⟨b, 0, none⟩ (by kernel_rfl) hi0
  clear h
  go_enter Try.func38, Try.ntmps38
  go_wp2
  go_ret
  exact ⟨rfl, rfl⟩
set_option maxRecDepth 100000 in
theorem lvalid_none (w : World) : Calls Try.prog 38 #[.pointer none] w fun e w' => e = .returned (.bool false) ∧ w = w' := by
  go_enter Try.func38, Try.ntmps38
  go_wp2
  go_ret
  exact ⟨rfl, rfl⟩
set_option maxRecDepth 100000 in
theorem lbegun_any (h : LogN N w b mf md v bg ns fs) : Calls Try.prog 21 #[.pointer (some ⟨b, 0, none⟩)] w fun e w' => e = .returned (.bool bg) ∧ w = w' := by
  have c1 : w.cell? ⟨b, 1, none⟩ = some (.bool bg) := h.blk.cell 1
  have HV := Lib.hid (lvalid_any h)
  clear h
  go_enter Try.func21, Try.ntmps21
  go_wp2_with (go_at_call 38; refine HV.out.mono ?_; rintro e _ ⟨rfl, rfl⟩)
  go_ret
  exact ⟨rfl, rfl⟩
set_option maxRecDepth 100000 in
theorem lbegun_none (w : World) : Calls Try.prog 21 #[.pointer none] w fun e w' => e = .returned (.bool false) ∧ w = w' := by
  have HV := Lib.hid (lvalid_none w)
  go_enter Try.func21, Try.ntmps21
  go_wp2_with (go_at_call 38; refine HV.out.mono ?_; rintro e _ ⟨rfl, rfl⟩)
  go_ret
  exact ⟨rfl, rfl⟩
set_option maxRecDepth 100000 in
theorem lsteps_any (h : LogN N w b mf md v bg ns fs) : Calls Try.prog 24 #[.pointer (some ⟨b, 0, none⟩)] w fun e w' => e = .returned (.int .i64 (stepsN fs)) ∧ w = w' := by
  have c5 : w.cell? ⟨b, 5, none⟩ = some (.int .i64 (stepsN fs)) := h.blk.cell 5
  have HV := Lib.hid (lvalid_any h)
  clear h
  generalize stepsN fs = st at *
  go_enter Try.func24, Try.ntmps24
  go_wp2_with (go_at_call 38; refine HV.out.mono ?_; rintro e _ ⟨rfl, rfl⟩)
  go_ret
  exact ⟨rfl, rfl⟩
set_option maxRecDepth 100000 in
theorem lsteps_none (w : World) : Calls Try.prog 24 #[.pointer none] w fun e w' => e = .returned (.int .i64 0) ∧ w = w' := by
  have HV := Lib.hid (lvalid_none w)
  go_enter Try.func24, Try.ntmps24
  go_wp2_with (go_at_call 38; refine HV.out.mono ?_; rintro e _ ⟨rfl, rfl⟩)
  go_ret
  exact ⟨rfl, rfl⟩
set_option maxRecDepth 100000 in
theorem ldone_any (h : LogN N w b mf md v bg ns fs) (s : Int) (hs : i64ok s) : Calls Try.prog 22 #[.pointer (some ⟨b, 0, none⟩), .int .i64 s] w fun e w' => e = .returned (.int .i64 (doneN fs s : Int)) ∧ w = w' := by
  have c4 : w.cell? ⟨b, 4, none⟩ = some (.map (some md)) := h.blk.cell 4
  have HV := Lib.hid (lvalid_any h)
  have hl := h.m.done s hs
  clear h hs
  generalize (doneN fs s : Int) = dn at *
  go_enter Try.func22, Try.ntmps22
  go_wp2_with (go_at_call 38; refine HV.out.mono ?_; rintro e _ ⟨rfl, rfl⟩)
  go_ret
  exact ⟨rfl, rfl⟩
set_option maxRecDepth 100000 in
theorem ldone_none (s : Int) (w : World) : Calls Try.prog 22 #[.pointer none, .int .i64 s] w fun e w' => e = .returned (.int .i64 0) ∧ w = w' := by
  have HV := Lib.hid (lvalid_none w)
  go_enter Try.func22, Try.ntmps22
  go_wp2_with (go_at_call 38; refine HV.out.mono ?_; rintro e _ ⟨rfl, rfl⟩)
  go_ret
  exact ⟨rfl, rfl⟩

set_option maxRecDepth 100000 in
set_option maxHeartbeats 1000000 in
theorem lfile_any (h : LogN N w b mf md v bg ns fs) (k s p : Int) (hk : k = 2 ∨ k = 3) (hs : i64ok s) (hp : i64ok p) : Calls Try.prog 40 #[.pointer (some ⟨b, 0, none⟩), .agg #[.int .i64 k, .int .i64 s, .int .i64 p]] w fun e w' => e = .returned (.tuple #[.int .i64 ((fileN fs k s p).getD 0), .bool (fileN fs k s p).isSome]) ∧ Below w.heap.size w w' := by
  obtain ⟨w0, hw0⟩ : ∃ w0, w.alloc (.cells #[.int .i64 k, .int .i64 s, .int .i64 p] 77) = w0 := ⟨_, rfl⟩
  have hx : Blk w0 w.heap.size 77 #[.int .i64 k, .int .i64 s, .int .i64 p] := by rw [← hw0]; exact Blk.new w _ _
  have hb0 : Below w.heap.size w w0 := by rw [← hw0]; exact (Below.refl _ _).alloc (Nat.le_refl _) _
  have h0 := h.below hb0
  have c3 : w0.cell? ⟨b, 3, none⟩ = some (.map (some mf)) := h0.blk.cell 3
  have x0 := hx.cell 0
  have x1 := hx.cell 1
  have x2 := hx.cell 2
  have HV := Lib.hid (lvalid_any h0)
  have hl : ∀ q, (Instr.lookup 68 (.map (some mf)) (.agg #[.int .i64 k, .int .i64 s, .int .i64 p]) true).run Try.prog (w0.drewN q) = .ok (.tuple #[.int .i64 ((fileN fs k s p).getD 0), .bool (fileN fs k s p).isSome]) (w0.drewN q) := fun q => (h0.m.keep (Keep.drewN (Keep.refl (fun _ => False) w0) q) (fun e => e) (fun e => e)).file k s p hk hs hp
  have HB := Lib.hid hb0
  clear h hs hp hk h0 hb0 hx
  generalize (fileN fs k s p).getD 0 = fv at *
  generalize (fileN fs k s p).isSome = fb at *
  go_enter Try.func40, Try.ntmps40
  go_wp2_with (go_at_call 38; refine HV.out.mono ?_; rintro e _ ⟨rfl, rfl⟩)
  go_quiet (fail)
  go_wp2
  go_ret2
  exact ⟨rfl, below_drewN HB.out _⟩
set_option maxRecDepth 100000 in
theorem lfile_none (k s p : Int) (w : World) : Calls Try.prog 40 #[.pointer none, .agg #[.int .i64 k, .int .i64 s, .int .i64 p]] w fun e w' => e = .returned (.tuple #[.int .i64 0, .bool false]) ∧ Below w.heap.size w w' := by
  have hb0 : Below w.heap.size w (w.alloc (.cells #[.int .i64 k, .int .i64 s, .int .i64 p] 77)) := (Below.refl _ _).alloc (Nat.le_refl _) _
  have HV := Lib.hid (fun W => lvalid_none W)
  have HB := Lib.hid hb0
  clear hb0
  go_enter Try.func40, Try.ntmps40
  go_wp2_with (go_at_call 38; refine (HV.out _).mono ?_; rintro e _ ⟨rfl, rfl⟩)
  go_ret2
  exact ⟨rfl, HB.out⟩
set_option maxRecDepth 100000 in
theorem ltile_any (h : LogN N w b mf md v bg ns fs) (s p : Int) (hs : i64ok s) (hp : i64ok p) : Calls Try.prog 18 #[.pointer (some ⟨b, 0, none⟩), .int .i64 s, .int .i64 p] w fun e w' => e = .returned (.tuple #[.int .i64 ((fileN fs 2 s p).getD 0), .bool (fileN fs 2 s p).isSome]) ∧ Below w.heap.size w w' := by
  have H := Lib.hid (lfile_any h 2 s p (.inl rfl) hs hp)
  clear h hs hp
  generalize (fileN fs 2 s p).getD 0 = fv at *
  generalize (fileN fs 2 s p).isSome = fb at *
  go_enter Try.func18, Try.ntmps18
  go_wp2_with (go_at_call 40; refine H.out.mono ?_; rintro e w1 ⟨rfl, hb⟩; have HB := Lib.hid hb; clear hb)
  go_ret2
  exact ⟨rfl, HB.out⟩
set_option maxRecDepth 100000 in
theorem lrun_any (h : LogN N w b mf md v bg ns fs) (s p : Int) (hs : i64ok s) (hp : i64ok p) : Calls Try.prog 20 #[.pointer (some ⟨b, 0, none⟩), .int .i64 s, .int .i64 p] w fun e w' => e = .returned (.tuple #[.int .i64 ((fileN fs 3 s p).getD 0), .bool (fileN fs 3 s p).isSome]) ∧ Below w.heap.size w w' := by
  have H := Lib.hid (lfile_any h 3 s p (.inr rfl) hs hp)
  clear h hs hp
  generalize (fileN fs 3 s p).getD 0 = fv at *
  generalize (fileN fs 3 s p).isSome = fb at *
  go_enter Try.func20, Try.ntmps20
  go_wp2_with (go_at_call 40; refine H.out.mono ?_; rintro e w1 ⟨rfl, hb⟩; have HB := Lib.hid hb; clear hb)
  go_ret2
  exact ⟨rfl, HB.out⟩
set_option maxRecDepth 100000 in
theorem ltile_none (s p : Int) (w : World) : Calls Try.prog 18 #[.pointer none, .int .i64 s, .int .i64 p] w fun e w' => e = .returned (.tuple #[.int .i64 0, .bool false]) ∧ Below w.heap.size w w' := by
  have H := Lib.hid (lfile_none 2 s p w)
  go_enter Try.func18, Try.ntmps18
  go_wp2_with (go_at_call 40; refine H.out.mono ?_; rintro e w1 ⟨rfl, hb⟩; have HB := Lib.hid hb; clear hb)
  go_ret2
  exact ⟨rfl, HB.out⟩

theorem notes_nil (w : World) (a : Option Addr) (n c n' c' : Nat) : (binOp .eql 39 (.slice a n c) (.slice none n' c')).run Try.prog w = .ok (.bool a.isNone) w := Lib.run_eql_slice_nil w _ _ a n c n' c' Try.underlying39
set_option maxRecDepth 100000 in
set_option maxHeartbeats 1000000 in
theorem nclone_any (A : Option Addr) (n c : Nat) (l : List NV) (w : World) (hl : l.length = n) (hr : Reads w w.heap.size 4 A n (l.flatMap nc)) (hn : n ≤ 100000) :
    Calls Try.prog 39 #[.slice A n c] w fun e w' => ∃ A' c', e = .returned (.slice A' n c') ∧ w'.ownsRow w.heap.size 23 4 (.slice A' n c') n (l.flatMap nc) ∧ Below w.heap.size w w' := by
  obtain ⟨i0, hi, hz0, hz1, hz2⟩ := info_parts infoNote
  have q := notes_nil
  rcases A with _ | ad
  · have h0 : n = 0 := by
      rcases Nat.eq_zero_or_pos n with h0 | h0
      · exact h0
      · obtain ⟨ad, h, _⟩ := hr.2 h0
        cases h
    subst h0
    obtain rfl : l = [] := List.eq_nil_of_length_eq_zero hl
    clear hr
    go_enter Try.func39, Try.ntmps39
    go_wp2
    go_ret
    exact ⟨_, _, rfl, World.ownsRow_nil _ _ _ _, Below.refl _ _⟩
  · go_enter Try.func39, Try.ntmps39
    go_wp2_with (at_builtin; refine wpList_append_any _ rfl _ _ 39 rfl w.heap.size 23 i0 _ 4 32 Try.underlying39 hi hz0 hz1 hz2 rfl (by decide) _ _ _ rfl (World.ownsRow_made w #[] 0 (Nat.le_refl _) (Nat.zero_le _) rfl) w.heap.size (some ad) n c (l.flatMap nc) rfl (hr.alloc (Nat.le_refl _) _) (nc_one l) (by unfold maxLen; omega) (by omega) (by simp) ?_)
    intro v' w1 hown hgrow hat
    have hB : Below w.heap.size w w1 := ((Below.refl _ w).alloc (Nat.le_refl _) _).grown hgrow (by simp) (by intro k hk; simp [Value.ownBlock] at hk; omega)
    obtain ⟨A', c', rfl⟩ := own_slice4 hown
    have hH : w1.ownsRow w.heap.size 23 4 (.slice A' n c') n (l.flatMap nc) := by simpa using hown
    have HB := Lib.hid hB
    have HH := Lib.hid hH
    clear hat hB hH hown hgrow hr
    go_wp2
    go_ret
    exact ⟨_, _, rfl, HH.out, HB.out⟩
set_option maxRecDepth 100000 in
theorem lnotes_any (h : LogN N w b mf md v bg ns fs) : Calls Try.prog 16 #[.pointer (some ⟨b, 0, none⟩)] w fun e w' => ∃ A c, e = .returned (.slice A ns.length c) ∧ w'.ownsRow w.heap.size 23 4 (.slice A ns.length c) ns.length (ns.flatMap nc) ∧ Below w.heap.size w w' := by
  obtain ⟨A, c, rfl⟩ := own_slice4 h.own
  have c2 : w.cell? ⟨b, 2, none⟩ = some (.slice A ns.length c) := h.blk.cell 2
  have HV := Lib.hid (lvalid_any h)
  have HC := Lib.hid (nclone_any A ns.length c ns w rfl (Reads.of_own h.own) h.few.1)
  clear h
  generalize ns.length = n at *
  go_enter Try.func16, Try.ntmps16
  go_wp2_with (first
    | (go_at_call 38; refine HV.out.mono ?_; rintro e _ ⟨rfl, rfl⟩)
    | (go_at_call 39; refine HC.out.mono ?_; rintro e w1 ⟨A', c', rfl, ho, hb⟩; have HO := Lib.hid ho; have HB := Lib.hid hb; clear ho hb))
  go_ret
  exact ⟨A', c', rfl, HO.out, HB.out⟩
set_option maxRecDepth 100000 in
theorem lnotes_none (w : World) : Calls Try.prog 16 #[.pointer none] w fun e w' => e = .returned (.slice none 0 0) ∧ w = w' := by
  have HV := Lib.hid (lvalid_none w)
  go_enter Try.func16, Try.ntmps16
  go_wp2_with (go_at_call 38; refine HV.out.mono ?_; rintro e _ ⟨rfl, rfl⟩)
  go_ret
  exact ⟨rfl, rfl⟩
end
end Go.Proofs.Ytdjneiboeehclaa.note

/-
  Layer 9: what NoteNames needs: its lists of notes; a log as a walk bears it.
-/
import Derived.Test.YtdjneiboeehclaaNtMore
namespace Go.Proofs.Ytdjneiboeehclaa.noteNames
open Go.RowKit Go.Proofs.Ytdjneiboeehclaa.crc Go.Proofs.Ytdjneiboeehclaa.root Go.Proofs.Ytdjneiboeehclaa.note

def bads : List NV := [⟨0, 0, 0, 0⟩, ⟨6, 0, 0, 0⟩, ⟨1, 0, 1, 0⟩, ⟨1, 0, 0, 1⟩, ⟨2, -1, 0, 0⟩, ⟨2, 0, 1048577, 0⟩, ⟨3, 0, 0, -1⟩, ⟨4, 0, 1, 0⟩, ⟨5, 0, 0, 1⟩]
def goods : List NV := [⟨1, 1048576, 0, 0⟩, ⟨2, 1, 1048576, 9223372036854775807⟩, ⟨3, 0, 0, 0⟩, ⟨4, 9, 0, 0⟩, ⟨5, 2, 8, 0⟩]
theorem fine_all {l : List NV} (h : l.all (fun x => decide (-9223372036854775808 ≤ x.k ∧ x.k ≤ 9223372036854775807) && (decide (-9223372036854775808 ≤ x.a ∧ x.a ≤ 9223372036854775807) && (decide (-9223372036854775808 ≤ x.b ∧ x.b ≤ 9223372036854775807) && decide (-9223372036854775808 ≤ x.n ∧ x.n ≤ 9223372036854775807)))) = true) : ∀ x ∈ l, x.Fine := by
  intro x hx
  have := List.all_eq_true.1 h x hx
  simp only [Bool.and_eq_true, decide_eq_true_eq] at this
  exact ⟨this.1, this.2.1, this.2.2.1, this.2.2.2⟩
theorem bads_fine : ∀ x ∈ bads, x.Fine := fine_all (by decide +kernel)
theorem goods_fine : ∀ x ∈ goods, x.Fine := fine_all (by decide +kernel)
theorem bads_bad : ∀ x ∈ bads, okN x = false := by decide +kernel
theorem goods_ok : ∀ x ∈ goods, okN x = true := by decide +kernel
/-- A list of notes that lies in a block of its own. -/
theorem lit_notes (w : World) (l : List NV) (n : Nat) (hn : l.length = n) {C : Array Value} (hC : C = (l.flatMap nc).toArray) : Reads (w.alloc (.cells C 23)) (w.alloc (.cells C 23)).heap.size 4 (some ⟨w.heap.size, 0, none⟩) n (l.flatMap nc) := by
  refine ⟨by rw [nc_length, hn], fun _ => ⟨_, rfl, by simp, fun j u hu => ?_⟩⟩
  have e : (⟨w.heap.size, 0, none⟩ : Addr).add j = ⟨w.heap.size, j, none⟩ := by unfold Addr.add; split <;> simp_all
  rw [e, (Blk.new w _ _).cell j, hC]
  simpa using hu
theorem out_bad {x : NV} (h : okN x = false) : outN x = [] ∧ errN x = 90 := by
  unfold outN errN
  rw [h]
  exact ⟨rfl, rfl⟩
theorem out_ok {x : NV} (h : okN x = true) (hf : x.Fine) : (outN x).length = 17 ∧ errN x = 0 ∧ decN (outN x) = x ∧ decErrN (outN x) = 0 := by
  have h2 := dec_enc h hf
  unfold outN errN
  rw [h]
  exact ⟨encN_length x, rfl, h2.1, h2.2⟩

/-- A log at b. -/
def Lg (W : World) (b : Nat) (ns : List NV) (bg : Bool) : Prop := ∃ N mf md v, LogN N W b mf md v bg ns ns
theorem Lg.next {W W' : World} {b : Nat} {ns : List NV} {bg : Bool} (h : Lg W b ns bg) (hb : Below W.heap.size W W') : Lg W' b ns bg := by
  obtain ⟨N, mf, md, v, h⟩ := h
  exact ⟨N, mf, md, v, h.below hb⟩
theorem Lg.begun {W : World} {b : Nat} {ns : List NV} {bg : Bool} (h : Lg W b ns bg) : Calls Try.prog 21 #[.pointer (some ⟨b, 0, none⟩)] W fun e w' => e = .returned (.bool bg) ∧ W = w' := by
  obtain ⟨N, mf, md, v, h⟩ := h
  exact lbegun_any h
theorem Lg.steps {W : World} {b : Nat} {ns : List NV} {bg : Bool} (h : Lg W b ns bg) {s : Int} (hs : stepsN ns = s) : Calls Try.prog 24 #[.pointer (some ⟨b, 0, none⟩)] W fun e w' => e = .returned (.int .i64 s) ∧ W = w' := by
  obtain ⟨N, mf, md, v, h⟩ := h
  have := lsteps_any h
  rw [hs] at this
  exact this
theorem Lg.done {W : World} {b : Nat} {ns : List NV} {bg : Bool} (h : Lg W b ns bg) (s : Int) (hs : i64ok s) {d : Int} (hd : (doneN ns s : Int) = d) : Calls Try.prog 22 #[.pointer (some ⟨b, 0, none⟩), .int .i64 s] W fun e w' => e = .returned (.int .i64 d) ∧ W = w' := by
  obtain ⟨N, mf, md, v, h⟩ := h
  have := ldone_any h s hs
  rw [hd] at this
  exact this
theorem Lg.notes {W : World} {b : Nat} {ns : List NV} {bg : Bool} (h : Lg W b ns bg) {k : Nat} (hk : ns.length = k) : Calls Try.prog 16 #[.pointer (some ⟨b, 0, none⟩)] W fun e w' => ∃ A c, e = .returned (.slice A k c) ∧ Below W.heap.size W w' := by
  obtain ⟨N, mf, md, v, h⟩ := h
  have := lnotes_any h
  rw [hk] at this
  exact this.mono fun e w' ⟨A, c, h1, _, h3⟩ => ⟨A, c, h1, h3⟩
theorem Lg.tile {W : World} {b : Nat} {ns : List NV} {bg : Bool} (h : Lg W b ns bg) (s p : Int) (hs : i64ok s) (hp : i64ok p) {f : Option Int} (hf : fileN ns 2 s p = f) : Calls Try.prog 18 #[.pointer (some ⟨b, 0, none⟩), .int .i64 s, .int .i64 p] W fun e w' => e = .returned (.tuple #[.int .i64 (f.getD 0), .bool f.isSome]) ∧ Below W.heap.size W w' := by
  obtain ⟨N, mf, md, v, h⟩ := h
  have := ltile_any h s p hs hp
  rw [hf] at this
  exact this
theorem Lg.run {W : World} {b : Nat} {ns : List NV} {bg : Bool} (h : Lg W b ns bg) (s p : Int) (hs : i64ok s) (hp : i64ok p) {f : Option Int} (hf : fileN ns 3 s p = f) : Calls Try.prog 20 #[.pointer (some ⟨b, 0, none⟩), .int .i64 s, .int .i64 p] W fun e w' => e = .returned (.tuple #[.int .i64 (f.getD 0), .bool f.isSome]) ∧ Below W.heap.size W w' := by
  obtain ⟨N, mf, md, v, h⟩ := h
  have := lrun_any h s p hs hp
  rw [hf] at this
  exact this
/-- Payloads of notes: what 'bytes' answers. -/
def Pl (W : World) (A : Option Addr) (n c : Nat) (ls : List (List UInt8)) : Prop := ∃ w0 us, Grows w0 W ls n (.slice A n c) us
theorem bytes_lit (w : World) (l : List NV) (n : Nat) (hn : l.length = n) (hf : ∀ x ∈ l, x.Fine) (hb : n ≤ 100) {C : Array Value} (hC : C = (l.flatMap nc).toArray) {ls : List (List UInt8)} (hls : l.map outN = ls) :
    Calls Try.prog 26 #[.slice (some ⟨w.heap.size, 0, none⟩) n n] (w.alloc (.cells C 23)) fun e w' => ∃ B d, e = .returned (.slice B n d) ∧ Pl w' B n d ls ∧ Below w.heap.size w w' := by
  refine (nbytes_any (c := n) hn hf hb (lit_notes w l n hn hC)).mono fun e w' ⟨B, d, us, he, hg⟩ => ?_
  rw [hls] at hg
  exact ⟨B, d, he, ⟨_, us, hg⟩, ((Below.refl _ w).alloc (Nat.le_refl _) _).trans (hg.below.mono (by simp))⟩
theorem new_pl (st : Int) {W : World} {A : Option Addr} {n c : Nat} {ls : List (List UInt8)} (h : Pl W A n c ls) (hn : n ≤ 1000) {bg : Bool} {ns : List NV} (hbg : begunN st ls = bg) (hns : notesN st ls = ns) :
    Calls Try.prog 14 #[.int .i64 st, .slice A n c] W fun e w' => ∃ b, e = .returned (.pointer (some ⟨b, 0, none⟩)) ∧ Lg w' b ns bg ∧ Below W.heap.size W w' := by
  obtain ⟨w0, us, hg⟩ := h
  refine (nnew_any st (c := c) hg.rws hn (own_cap9 hg.own)).mono fun e w' ⟨b, mf, md, v, he, hl, hb⟩ => ?_
  rw [hbg, hns] at hl
  exact ⟨b, he, ⟨_, mf, md, v, hl⟩, hb⟩
theorem new_nil (st : Int) (W : World) : Calls Try.prog 14 #[.int .i64 st, .slice none 0 0] W fun e w' => ∃ b, e = .returned (.pointer (some ⟨b, 0, none⟩)) ∧ Lg w' b [] false ∧ Below W.heap.size W w' := by
  have hr : Rws W.heap.size W none 0 [] [] := ⟨Reads.none_, rfl, fun i l hl => by simp at hl⟩
  refine (nnew_any st (c := 0) hr (by omega) (by omega)).mono fun e w' ⟨b, mf, md, v, he, hl, hb⟩ => ?_
  exact ⟨b, he, ⟨_, mf, md, v, hl⟩, hb⟩
def sixN : List NV := [⟨1, 4, 0, 0⟩, ⟨2, 1, 2, 7⟩, ⟨3, 5, 0, 8⟩, ⟨2, 1, 2, 9⟩, ⟨4, 4, 0, 0⟩, ⟨2, 1, 2, 7⟩]
def notN : List NV := [⟨1, 4, 0, 0⟩, ⟨2, 1, 2, 7⟩]
def agaN : List NV := [⟨1, 4, 0, 0⟩, ⟨2, 1, 2, 7⟩, ⟨1, 4, 0, 0⟩, ⟨3, 5, 0, 8⟩]
def begN : List NV := [⟨1, 4, 0, 0⟩]
def tilN : List NV := [⟨2, 1, 2, 7⟩]
def fourN : List NV := [⟨2, 1, 2, 7⟩, ⟨3, 5, 0, 8⟩, ⟨2, 1, 2, 9⟩, ⟨4, 4, 0, 0⟩]
theorem six_begun : begunN 4 (sixN.map outN) = true := by decide +kernel
theorem six_notes : notesN 4 (sixN.map outN) = fourN := by decide +kernel
theorem six_tile : fileN fourN 2 1 2 = some 9 := by decide +kernel
theorem six_run : fileN fourN 3 5 0 = some 8 := by decide +kernel
theorem six_done1 : (doneN fourN 1 : Int) = 1 := by decide +kernel
theorem six_done5 : (doneN fourN 5 : Int) = 0 := by decide +kernel
theorem six_steps : stepsN fourN = 6 := by decide +kernel
theorem not_begun : begunN 5 (notN.map outN) = false := by decide +kernel
theorem not_notes : notesN 5 (notN.map outN) = [] := by decide +kernel
theorem aga_begun : begunN 4 (agaN.map outN) = true := by decide +kernel
theorem aga_notes : notesN 4 (agaN.map outN) = [⟨2, 1, 2, 7⟩] := by decide +kernel
theorem bro_begun : begunN 4 (begN.map outN ++ [[1], []]) = true := by decide +kernel
theorem bro_notes : notesN 4 (begN.map outN ++ [[1], []]) = [] := by decide +kernel
theorem til_begun : begunN 4 (tilN.map outN) = false := by decide +kernel
theorem til_notes : notesN 4 (tilN.map outN) = [] := by decide +kernel
theorem six_fine : ∀ x ∈ sixN, x.Fine := fine_all (by decide +kernel)
theorem not_fine : ∀ x ∈ notN, x.Fine := fine_all (by decide +kernel)
theorem aga_fine : ∀ x ∈ agaN, x.Fine := fine_all (by decide +kernel)
theorem beg_fine : ∀ x ∈ begN, x.Fine := fine_all (by decide +kernel)
theorem til_fine : ∀ x ∈ tilN, x.Fine := fine_all (by decide +kernel)
theorem dec17 : decN (List.replicate 17 0) = noN ∧ decErrN (List.replicate 17 0) = 90 := by decide +kernel
theorem dec0 : decN [] = noN ∧ decErrN [] = 90 := by decide +kernel
/-- What stands: logs, and all that is elder than wX. -/
def NB (wX : World) (L : List (Nat × List NV × Bool)) (W : World) : Prop := Below wX.heap.size wX W ∧ ∀ p ∈ L, Lg W p.1 p.2.1 p.2.2
theorem NB.start (wX : World) : NB wX [] wX := ⟨Below.refl _ _, fun p h => by cases h⟩
theorem NB.next {wX W W' : World} {L : List (Nat × List NV × Bool)} (h : NB wX L W) (hb : Below W.heap.size W W') : NB wX L W' := ⟨h.1.trans (hb.mono h.1.size), fun p hp => (h.2 p hp).next hb⟩
theorem NB.add {wX W : World} {L : List (Nat × List NV × Bool)} {b : Nat} {ns : List NV} {bg : Bool} (h : NB wX L W) (hl : Lg W b ns bg) : NB wX ((b, ns, bg) :: L) W := ⟨h.1, fun p hp => by
  rcases List.mem_cons.1 hp with rfl | hp
  · exact hl
  · exact h.2 p hp⟩

/-- The two broken payloads behind the first one. -/
def broW (W : World) : World := (W.alloc (.cells #[.int .u8 1] 5)).alloc (.cells #[.slice (some ⟨W.heap.size, 0, none⟩) 1 1, .slice none 0 0] 24)
theorem bro_below (W : World) : Below W.heap.size W (broW W) := ((Below.refl _ W).alloc (Nat.le_refl _) _).alloc (by simp) _
theorem bro_reads (W : World) : Reads (broW W) (broW W).heap.size 1 (some ⟨W.heap.size + 1, 0, none⟩) 2 [.slice (some ⟨W.heap.size, 0, none⟩) 1 1, .slice none 0 0] := by
  refine ⟨rfl, fun _ => ⟨_, rfl, by unfold broW; simp, fun j u hu => ?_⟩⟩
  have hb := Blk.new (W.alloc (.cells #[.int .u8 1] 5)) 24 #[.slice (some ⟨W.heap.size, 0, none⟩) 1 1, .slice none 0 0]
  rw [World.size_alloc] at hb
  have e : (⟨W.heap.size + 1, 0, none⟩ : Addr).add j = ⟨W.heap.size + 1, j, none⟩ := by unfold Addr.add; split <;> simp_all
  rw [e]
  refine (hb.cell j).trans ?_
  simpa using hu
theorem new_bro {w0 W W3 : World} {v' : Value} {B : Option Addr} {d : Nat} {us : List Value} (hg : Grows w0 W (begN.map outN) 1 (.slice B 1 d) us)
    (o : W3.ownsRow w0.heap.size 24 1 v' (1 + 2) (us ++ [.slice (some ⟨W.heap.size, 0, none⟩) 1 1, .slice none 0 0])) (g : (broW W).grownBy W3 (Value.slice B 1 d).ownBlock) :
    ∃ A c, v' = .slice A 3 c ∧ Below w0.heap.size w0 W3 ∧ Calls Try.prog 14 #[.int .i64 4, .slice A 3 c] W3 fun e w' => ∃ b, e = .returned (.pointer (some ⟨b, 0, none⟩)) ∧ Lg w' b [] true ∧ Below W3.heap.size W3 w' := by
  obtain ⟨A, c, rfl⟩ := own_slice4 o
  have hg2 := hg.next (bro_below W)
  have kg : Keep (fun k => (Value.slice B 1 d).ownBlock = some k) (broW W) W3 := (Keep.refl _ _).grown g (fun i e _ => e)
  have n8 : ∀ k, (Value.slice B 1 d).ownBlock = some k → ¬ Typ (broW W) k 5 := fun k e t => absurd ((own_typ9 hg2.own k e).ne t) (by decide)
  have hbel : Below w0.heap.size w0 W3 := hg2.below.grown g hg2.below.size (fun k e => (hg2.own.lt k e).1)
  have how := hg2.owns.keep kg n8
  have hu1 : us.length = 1 := by have := hg.own.1; omega
  have hb1 : Blk (broW W) W.heap.size 5 #[.int .u8 1] := (Blk.new W _ _).alloc _
  have hb3 : Blk W3 W.heap.size 5 #[.int .u8 1] := kg.blk hb1 (fun e => n8 _ e hb1.typ)
  refine ⟨A, c, rfl, hbel, ?_⟩
  have hr : Rws W3.heap.size W3 A 3 (begN.map outN ++ [[1], []]) (us ++ [.slice (some ⟨W.heap.size, 0, none⟩) 1 1, .slice none 0 0]) := by
    refine ⟨Reads.of_own o, rfl, fun i l hl => ?_⟩
    rcases i with _ | _ | _ | i
    · obtain ⟨B', d', h1, h2⟩ := how.2 0 l hl
      exact ⟨B', d', by rw [List.getElem?_append_left (by omega)]; exact h1, Reads.of_own h2⟩
    · have e : l = [1] := by
        have : (begN.map outN ++ [[1], []])[0 + 1]? = some ([1] : List UInt8) := rfl
        rw [this] at hl
        injection hl with hl
        exact hl.symm
      subst e
      refine ⟨some ⟨W.heap.size, 0, none⟩, 1, by rw [List.getElem?_append_right (by omega), hu1]; rfl, rfl, fun _ => ⟨_, rfl, hb3.lt, fun j u hu => ?_⟩⟩
      have e : (⟨W.heap.size, 0, none⟩ : Addr).add j = ⟨W.heap.size, j, none⟩ := by unfold Addr.add; split <;> simp_all
      rw [e, hb3.cell j]
      rcases j with _ | j
      · exact hu
      · simp [bv] at hu
    · have e : l = [] := by
        have : (begN.map outN ++ [[1], []])[0 + 1 + 1]? = some ([] : List UInt8) := rfl
        rw [this] at hl
        injection hl with hl
        exact hl.symm
      subst e
      exact ⟨none, 0, by rw [List.getElem?_append_right (by omega), hu1]; rfl, Reads.none_⟩
    · have : (begN.map outN ++ [[1], []])[i + 1 + 1 + 1]? = (none : Option (List UInt8)) := by
        apply List.getElem?_eq_none
        show 3 ≤ _
        omega
      rw [this] at hl
      cases hl
  refine (nnew_any 4 (c := c) hr (by omega) (own_cap9 o)).mono fun e w' ⟨b, mf, md, v, he, hl, hb⟩ => ?_
  rw [bro_begun, bro_notes] at hl
  exact ⟨b, he, ⟨_, mf, md, v, hl⟩, hb⟩
end Go.Proofs.Ytdjneiboeehclaa.noteNames

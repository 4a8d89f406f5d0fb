/-
  Layer 9: lists of slices of bytes, of the call's own or handed in; the statements' own 'bytes'.
-/
import Derived.Test.YtdjneiboeehclaaNtNew
import Derived.Test.YtdjneiboeehclaaHeads
namespace Go.Proofs.Ytdjneiboeehclaa.note
open Go.RowKit Go.Maps Go.Proofs.Ytdjneiboeehclaa.crc Go.Proofs.Ytdjneiboeehclaa.root

theorem info_rows9 : (Try.prog.info? 24).map (fun i => (i.zero, i.size, i.bytes)) = some (some (.slice none 0 0), 1, 24) := by kernel_rfl
theorem own_typ9 {w : World} {base e size n : Nat} {v : Value} {xs : List Value} (h : w.ownsRow base e size v n xs) : ∀ g, v.ownBlock = some g → Typ w g e := fun g e => by
  obtain ⟨_, _, cur, hc⟩ := own_is h g e
  exact hc.typ

/-- Slices of the call's own, each of bytes in memory of its own. -/
def Owns (w : World) (base : Nat) (ls : List (List UInt8)) (vs : List Value) : Prop :=
  vs.length = ls.length ∧ ∀ (i : Nat) (l : List UInt8), ls[i]? = some l → ∃ A c, vs[i]? = some (.slice A l.length c) ∧ w.ownsRow base 5 1 (.slice A l.length c) l.length (l.map bv)
theorem Owns.nil (w : World) (base : Nat) : Owns w base [] [] := ⟨rfl, fun i l hl => by simp at hl⟩
theorem Owns.keep {w w' : World} {base : Nat} {S : Nat → Prop} {ls : List (List UInt8)} {vs : List Value} (h : Owns w base ls vs) (hk : Keep S w w') (h8 : ∀ k, S k → ¬ Typ w k 5) : Owns w' base ls vs :=
  ⟨h.1, fun i l hl => by obtain ⟨A, c, h1, h2⟩ := h.2 i l hl; exact ⟨A, c, h1, hk.own h2 (fun g e e2 => h8 g e2 (own_typ9 h2 g e))⟩⟩
theorem Owns.snoc {w : World} {base : Nat} {ls : List (List UInt8)} {vs : List Value} (h : Owns w base ls vs) {l : List UInt8} {A : Option Addr} {c : Nat} (hv : w.ownsRow base 5 1 (.slice A l.length c) l.length (l.map bv)) : Owns w base (ls ++ [l]) (vs ++ [.slice A l.length c]) := by
  refine ⟨by rw [List.length_append, List.length_append, h.1]; rfl, fun i m hm => ?_⟩
  by_cases hi : i < ls.length
  · rw [List.getElem?_append_left hi] at hm
    obtain ⟨B, d, hu, hh⟩ := h.2 i m hm
    exact ⟨B, d, by rw [List.getElem?_append_left (by rw [h.1]; exact hi)]; exact hu, hh⟩
  · rw [List.getElem?_append_right (by omega)] at hm
    have h0 : i - ls.length = 0 := by
      have := (List.getElem?_eq_some_iff.1 hm).1
      simp at this
      omega
    rw [h0] at hm
    injection hm with hm
    subst hm
    exact ⟨A, c, by rw [List.getElem?_append_right (by rw [h.1]; omega), h.1, h0]; rfl, hv⟩

/-- A list of byte slices as it grows: v: its slice, vs: what that holds. -/
structure Grows (w0 w : World) (ls : List (List UInt8)) (n : Nat) (v : Value) (vs : List Value) : Prop where
  below : Below w0.heap.size w0 w
  own : w.ownsRow w0.heap.size 24 1 v n vs
  len : ls.length = n
  owns : Owns w w0.heap.size ls vs
theorem Grows.start (w : World) : Grows w w [] 0 (.slice none 0 0) [] := ⟨Below.refl _ _, World.ownsRow_nil _ _ _ _, rfl, Owns.nil _ _⟩
theorem Grows.next {w0 w w' : World} {ls : List (List UInt8)} {n : Nat} {v : Value} {vs : List Value} (h : Grows w0 w ls n v vs) (hb : Below w.heap.size w w') : Grows w0 w' ls n v vs :=
  ⟨h.below.trans (hb.mono h.below.size), own_stay h.own hb, h.len, h.owns.keep (Keep.of_below (S := fun _ => False) hb) (fun _ e => e.elim)⟩
/-- One slice more. -/
theorem Grows.more {w0 W W2 W3 : World} {ls : List (List UInt8)} {n : Nat} {v v' : Value} {vs : List Value} {l : List UInt8} {A : Option Addr} {c : Nat} (h : Grows w0 W ls n v vs) (k2 : Below W.heap.size W W2) (ho : W2.ownsRow w0.heap.size 5 1 (.slice A l.length c) l.length (l.map bv))
    (hown : W3.ownsRow w0.heap.size 24 1 v' (n + 1) (vs ++ [.slice A l.length c])) (hg : W2.grownBy W3 v.ownBlock) : Grows w0 W3 (ls ++ [l]) (n + 1) v' (vs ++ [.slice A l.length c]) := by
  have h2 := h.next k2
  have kg : Keep (fun k => v.ownBlock = some k) W2 W3 := (Keep.refl _ W2).grown hg (fun g e _ => e)
  have n8 : ∀ k, v.ownBlock = some k → ¬ Typ W2 k 5 := fun k e t => absurd ((own_typ9 h2.own k e).ne t) (by decide)
  exact ⟨h2.below.grown hg h2.below.size (fun k e => (h2.own.lt k e).1), hown, by rw [List.length_append, h.len]; rfl, (h2.owns.snoc ho).keep kg n8⟩
theorem own_one_rows (w : World) (base : Nat) (hb : base ≤ w.heap.size) (x : Value) : (w.alloc (.cells #[x] 24)).ownsRow base 24 1 (.slice (some ⟨w.heap.size, 0, none⟩) 1 1) 1 [x] :=
  ⟨rfl, .inr ⟨w.heap.size, 1, #[x], rfl, hb, heap_alloc_new w _, Nat.le_refl _, by unfold maxLen; omega, rfl, rfl⟩⟩
theorem own_cap9 {w : World} {base e size n c : Nat} {A : Option Addr} {xs : List Value} (h : w.ownsRow base e size (.slice A n c) n xs) : n ≤ c ∧ c ≤ 9223372036854775807 := by
  rcases h.2 with ⟨e, h0⟩ | ⟨g, cap, cur, e, hb, hh, hc, hm, _⟩
  · injection e with _ e2 e3
    omega
  · injection e with _ _ e3
    subst e3
    unfold maxLen at hm
    refine ⟨by omega, by omega⟩
/-- As Payloads. -/
theorem Grows.rws {w0 w : World} {ls : List (List UInt8)} {n c : Nat} {A : Option Addr} {vs : List Value} (h : Grows w0 w ls n (.slice A n c) vs) : Rws w.heap.size w A n ls vs :=
  ⟨Reads.of_own h.own, h.len, fun i l hl => by obtain ⟨B, d, h1, h2⟩ := h.owns.2 i l hl; exact ⟨B, d, h1, Reads.of_own h2⟩⟩

/-- The cells of a note in a list. -/
theorem note_at {W : World} {B n k : Nat} {A : Option Addr} {l : List NV} {x : NV} (h : Reads W B 4 A n (l.flatMap nc)) (hk : l[k]? = some x) (hn : l.length = n) :
    ∃ ad, A = some ad ∧ ad.block < B ∧ W.cell? (ad.add (k * 4)) = some (.int .i64 x.k) ∧ W.cell? ⟨(ad.add (k * 4)).block, (ad.add (k * 4)).off + 1, none⟩ = some (.int .i64 x.a) ∧ W.cell? ⟨(ad.add (k * 4)).block, (ad.add (k * 4)).off + 2, none⟩ = some (.int .i64 x.b) ∧ W.cell? ⟨(ad.add (k * 4)).block, (ad.add (k * 4)).off + 3, none⟩ = some (.int .i64 x.n) := by
  have hlt := (List.getElem?_eq_some_iff.1 hk).1
  obtain ⟨ad, e, hb, hc⟩ := h.2 (by omega)
  have g : ∀ j, j < 4 → ∀ u, (nc x)[j]? = some u → W.cell? ((ad.add (k * 4)).add j) = some u := fun j hj u hu => by
    rw [add_of_add]
    exact hc _ u (by rw [nc_at l k j x hk hj]; exact hu)
  refine ⟨ad, e, hb, ?_, g 1 (by omega) _ rfl, g 2 (by omega) _ rfl, g 3 (by omega) _ rfl⟩
  exact g 0 (by omega) _ rfl

set_option maxRecDepth 100000 in
set_option maxHeartbeats 2000000 in
theorem nbytes_any {w : World} {l : List NV} {A : Option Addr} {n c : Nat} (hn : l.length = n) (hf : ∀ x ∈ l, x.Fine) (hbig : n ≤ 100) (hr : Reads w w.heap.size 4 A n (l.flatMap nc)) :
    Calls Try.prog 26 #[.slice A n c] w fun e w' => ∃ B d us, e = .returned (.slice B n d) ∧ Grows w w' (l.map outN) n (.slice B n d) us := by
  obtain ⟨i0, hi, hz0, hz1, hz2⟩ := info_parts info_rows9
  have HR := Lib.hid hr
  have HN := Lib.hid hn
  have HF := Lib.hid hf
  clear hr hn hf
  go_enter Try.func26, Try.ntmps26
  go_wp2
  go_loopw [9, 3] (fun q1 q2 wr => ∃ (k : Nat) (v : Value) (us : List Value), k ≤ n ∧ q1 = .int .i64 (k : Int) ∧ q2 = v ∧ Grows w wr ((l.take k).map outN) k v us) (fun q1 _ _ => n - (RowKit.intOf q1).toNat)
  case atStart => exact ⟨0, _, [], Nat.zero_le _, rfl, rfl, Grows.start w⟩
  case round =>
    obtain ⟨k, v, us, hk, rfl, rfl, hG⟩ := hrel
    by_cases hlt : k < n
    · have hkl : k < l.length := by rw [HN.out]; exact hlt
      obtain ⟨x, hx⟩ : ∃ x, l[k]? = some x := ⟨_, List.getElem?_eq_getElem hkl⟩
      have hxf := HF.out x (List.mem_of_getElem? hx)
      obtain ⟨ad, rfl, _, c0, c1, c2, c3⟩ := note_at ((HR.out.below hG.below).more hG.below.size) hx HN.out
      obtain ⟨A3, c3', rfl⟩ := own_slice4 hG.own
      have HEN := Lib.hid (nencode_any x wr hxf)
      have htk : (l.take (k + 1)).map outN = (l.take k).map outN ++ [outN x] := by rw [List.take_add_one, hx, List.map_append]; rfl
      obtain ⟨xk, xa, xb, xn⟩ := x
      unfold nv at HEN
      simp only at HEN c0 c1 c2 c3
      have HG := Lib.hid hG
      have HTK := Lib.hid htk
      have hlt9 : (k : Int) < (n : Int) := by omega
      clear hG htk hx hxf hkl
      go_wp2_with (first
        | (go_at_call 9; refine HEN.out.mono ?_; rintro e w5 ⟨v5, rfl, h5⟩
           obtain ⟨A5, c5, rfl, o5, b5⟩ := h5
           have H6 := Lib.hid (fun u => (own_stay (HG.out.next b5).own ((Below.refl _ w5).alloc (Nat.le_refl _) (.cells #[u] 24))))
           have HS5 := Lib.hid (Nat.le_trans HG.out.below.size b5.size)
           have HR6 := Lib.hid (fun u => Reads.of_own (own_one_rows w5 w5.heap.size (Nat.le_refl _) u))
           have HFIN := Lib.hid (fun (v7 : Value) (w7 : World) => HG.out.more (W3 := w7) (v' := v7) (b5.alloc b5.size (.cells #[.slice A5 (outN ⟨xk, xa, xb, xn⟩).length c5] 24)) (own_mono (own_stay o5 ((Below.refl _ w5).alloc (Nat.le_refl _) _)) HG.out.below.size))
           clear o5 b5)
        | (at_builtin; refine wpList_append_any _ rfl _ _ 35 rfl w.heap.size 24 i0 (.slice none 0 0) 1 24 Try.underlying35 hi hz0 hz1 hz2 rfl (by decide) _ k us rfl (H6.out _) _ (some ⟨w5.heap.size, 0, none⟩) 1 1 _ rfl (HR6.out _) (fun u hu => by rw [List.mem_singleton.1 hu]; rfl) (by unfold maxLen; omega) (by omega) (by have := HS5.out; simp; omega) ?_; intro v7 w7 o7 g7 _; have F7 := Lib.hid (HFIN.out v7 w7 o7 g7); clear o7 g7))
      exact ⟨⟨k + 1, v7, _, by omega, by go_num, rfl, by rw [HTK.out]; exact F7.out⟩, by simp [RowKit.intOf]; omega⟩
    · obtain rfl : k = n := by omega
      have htk : l.take k = l := by rw [← HN.out]; exact List.take_length
      rw [htk] at hG
      obtain ⟨A3, c3, rfl⟩ := own_slice4 hG.own
      have HG := Lib.hid hG
      clear hG htk
      go_wp2
      go_ret
      exact ⟨A3, c3, us, rfl, HG.out⟩
end Go.Proofs.Ytdjneiboeehclaa.note

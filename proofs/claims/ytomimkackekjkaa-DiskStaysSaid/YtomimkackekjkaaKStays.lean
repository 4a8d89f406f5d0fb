/-
  The statement DiskStays: what the crash leaves, sector by sector (no walk yet).
-/
import Derived.Test.YtomimkackekjkaaKMade
namespace Go.Proofs.Ytomimkackekjkaa
open Go.RowKit Go.Maps

/-- What is read of a sector: what waits, or what stays. -/
def nowL (S C : List (List UInt8)) (k : Nat) : List UInt8 := if 0 < (C.getD k []).length then C.getD k [] else S.getD k []
/-- What a crash leaves of it. -/
def wantL (S C : List (List UInt8)) (c : DCrash) (k : Nat) : List UInt8 := if 0 < (C.getD k []).length then cutAt (stayN c k) (C.getD k []) (S.getD k []) else S.getD k []

theorem pl6_write (S C : List (List UInt8)) (m a : Int) (l : List UInt8) (hS : S.length = 6) :
    (writeErr (pl6 S C m) a l = 0 ∧ writeK (pl6 S C m) a l = pl6 S (C.set a.toNat l) (m + 1) ∧ 0 ≤ a ∧ a < 6 ∧ l.length = 128) ∨
    (writeErr (pl6 S C m) a l = 30 ∧ writeK (pl6 S C m) a l = pl6 S C m) := by
  by_cases h : takes3 (pl6 S C m) a l.length = true
  · have h2 : (0 ≤ a ∧ a < 6) ∧ l.length = 128 := by
      unfold takes3 has3 at h
      have hl : (pl6 S C m).stays.length = 6 := hS
      rw [hl] at h
      simpa using h
    refine .inl ⟨?_, ?_, h2.1.1, h2.1.2, h2.2⟩
    · unfold writeErr
      rw [if_neg (by simp [pl6]), if_pos h, if_neg (by simp [pl6])]
    · unfold writeK
      rw [if_neg (by simp [pl6]), if_pos h, if_pos (by simp [pl6])]
      rfl
  · refine .inr ⟨?_, ?_⟩
    · unfold writeErr
      rw [if_neg (by simp [pl6]), if_neg h]
    · unfold writeK
      rw [if_neg (by simp [pl6]), if_neg h]

theorem has_six {s : RSt} {k : Nat} (hs : s.stays.length = 6) (hk : k < 6) : has3 s (k : Int) = true := by
  unfold has3
  rw [hs]
  simpa using by omega
theorem pl6_err (S C : List (List UInt8)) (m : Int) (k : Nat) (hS : S.length = 6) (hk : k < 6) : readErr3 (pl6 S C m) (k : Int) = 0 := by
  unfold readErr3
  rw [if_neg (by simp [pl6]), if_pos (has_six (s := pl6 S C m) hS hk)]
theorem pl6_out (S C : List (List UInt8)) (m : Int) (k : Nat) (hS : S.length = 6) (hk : k < 6) : readOut3 (pl6 S C m) (k : Int) = nowL S C k := by
  unfold readOut3
  rw [if_pos (pl6_err S C m k hS hk), Int.toNat_natCast]
  rfl
theorem down_err (S C : List (List UInt8)) (m : Int) (c : DCrash) (k : Nat) (hS : S.length = 6) (hk : k < 6) : readErr3 (bootSt (downK (pl6 S C m) c)) (k : Int) = 0 :=
  boot_err (by show (mixL _ _ _).length = 6; rw [mixL_length]; exact hS) hk
theorem down_out (S C : List (List UInt8)) (m : Int) (c : DCrash) (k : Nat) (hS : S.length = 6) (hk : k < 6) : readOut3 (bootSt (downK (pl6 S C m) c)) (k : Int) = wantL S C c k := by
  unfold readOut3
  rw [if_pos (down_err S C m c k hS hk), Int.toNat_natCast]
  have hc : (bootSt (downK (pl6 S C m) c)).cache = List.replicate S.length [] := rfl
  have hst : (bootSt (downK (pl6 S C m) c)).stays = mixL (pl6 S C m) (fun _ => true) (fun k => cutAt (stayN c k) (C.getD k []) (S.getD k [])) := rfl
  unfold seen
  rw [hc, hst]
  have h0 : (List.replicate S.length ([] : List UInt8)).getD k [] = [] := by
    simp [List.getD, List.getElem?_replicate]
    split <;> rfl
  rw [h0, if_neg (by simp)]
  have hm := mixL_at (s := pl6 S C m) (p := fun _ => true) (f := fun k => cutAt (stayN c k) (C.getD k []) (S.getD k [])) (k := k) (by show k < S.length; omega)
  have hg : (mixL (pl6 S C m) (fun _ => true) (fun k => cutAt (stayN c k) (C.getD k []) (S.getD k []))).getD k [] = wantL S C c k := by
    rw [List.getD_eq_getElem?_getD, hm, Option.getD_some]
    unfold wantL
    simp only [and_true]
    rfl
  exact hg
theorem cut_all {x y : List UInt8} (hx : x.length = 128) (hy : y.length = 128) : cutAt 128 x y = x := by
  unfold cutAt
  rw [show (128 : Int).toNat = 128 from rfl, List.take_of_length_le (by omega), List.drop_eq_nil_of_le (by omega), List.append_nil]
theorem cut_none (x y : List UInt8) : cutAt 0 x y = y := by
  unfold cutAt
  simp
theorem cut_clamp (n : Int) {x y : List UInt8} (hx : x.length = 128) (hy : y.length = 128) : cutAt n x y = x.take (max 0 (min n 128)).toNat ++ y.drop (max 0 (min n 128)).toNat := by
  unfold cutAt
  by_cases h : n ≤ 128
  · have e : n.toNat = (max 0 (min n 128)).toNat := by omega
    rw [e]
  · have e : (max 0 (min n 128)).toNat = 128 := by omega
    rw [e, List.take_of_length_le (by omega), List.take_of_length_le (by omega), List.drop_eq_nil_of_le (by omega), List.drop_eq_nil_of_le (by omega)]
/-- To keep all is to flush. -/
theorem want_all (S C : List (List UInt8)) (c : DCrash) (k : Nat) (hk : (k : Int) ∈ c.keep) (hC : 0 < (C.getD k []).length → (C.getD k []).length = 128) (hS : (S.getD k []).length = 128) : wantL S C c k = nowL S C k := by
  unfold wantL nowL
  by_cases h : 0 < (C.getD k []).length
  · rw [if_pos h, if_pos h]
    unfold stayN
    rw [if_pos hk]
    exact cut_all (hC h) hS
  · rw [if_neg h, if_neg h]
theorem want_torn (S C : List (List UInt8)) (c : DCrash) (k : Nat) (hk : ¬ (k : Int) ∈ c.keep) (ht : c.torn = (k : Int)) (h0 : 0 < (C.getD k []).length) (hC : (C.getD k []).length = 128) (hS : (S.getD k []).length = 128) :
    wantL S C c k = (C.getD k []).take (max 0 (min c.at_ 128)).toNat ++ (S.getD k []).drop (max 0 (min c.at_ 128)).toNat := by
  unfold wantL
  rw [if_pos h0]
  unfold stayN
  rw [if_neg hk, if_pos ht]
  exact cut_clamp _ hC hS
theorem want_was (S C : List (List UInt8)) (c : DCrash) (k : Nat) (hk : ¬ (k : Int) ∈ c.keep) (ht : ¬ c.torn = (k : Int)) : wantL S C c k = S.getD k [] := by
  unfold wantL
  by_cases h : 0 < (C.getD k []).length
  · rw [if_pos h]
    unfold stayN
    rw [if_neg hk, if_neg ht]
    exact cut_none _ _
  · rw [if_neg h]

theorem lcopy {N : Nat} {w0 w : World} {d : DAt} {s : RSt} (L : Lives N w0 w d s) (hK : s.keep.length ≤ 17592186044416) :
    Calls Try.prog 15 #[.pointer (some ⟨d.b, 0, none⟩)] w fun e w' => ∃ d', e = .returned (.pointer (some ⟨d'.b, 0, none⟩)) ∧ Lives N w0 w' d' s ∧ Lives N w0 w' d s ∧ Below w.heap.size w w' ∧ ∀ k, d'.foot k → w.heap.size ≤ k := by
  obtain ⟨kv, h⟩ := L.dk
  refine (dcopy_any h hK).mono ?_
  rintro e w' ⟨d', kv', rfl, h', hf, hb⟩
  exact ⟨d', rfl, ⟨L.below.trans (hb.mono L.lt), fun k hk => Nat.le_trans L.lt (hf k hk), _, h'⟩, L.next L.lt hb, hb, hf⟩
end Go.Proofs.Ytomimkackekjkaa

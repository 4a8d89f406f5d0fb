/-
  The disk of layer 3: Waits.
-/
import Derived.Test.YtddhldmeknmgpaaKDiskF
import Derived.Test.YtddhldmeknmgpaaShelf
namespace Go.Proofs.Ytddhldmeknmgpaa
open Go.RowKit Go.Maps Go.Sort Go.Shelf

/-- slices.Sort's two contracts, at the fence that asks nothing. -/
theorem sortsA (m : Nat) : AnyZI.SortsIn Try.prog Try.sortedA_ren Fence.wide m :=
  ⟨fun blk off cap ss W hH hblk hsz => callsIn_wide.2 (Any.slices_Sort_int Try.sortA blk off cap ss W hH hblk hsz),
   fun p cap W => callsIn_wide.2 (Any.slices_Sort_int_none Try.sortA p cap W)⟩

theorem sorted_pend {cache : List (List UInt8)} {ss : List Int} {D : DataW Unit} (h1 : ss.Perm (intKeys D)) (h2 : (pendTo cache cache.length).Perm (intKeys D)) : ss.mergeSort (fun x y => decide (x ≤ y)) = pendTo cache cache.length := by
  have e := mergeSort_of_perm_i (h1.trans h2.symm)
  have tr : ∀ a b c : Int, leI a b = true → leI b c = true → leI a c = true := fun a b c h1 h2 => by simp only [leI, decide_eq_true_eq] at *; exact Int.le_trans h1 h2
  show ss.mergeSort leI = _
  rw [e]
  exact List.mergeSort_of_pairwise ((pendTo_rises cache _).imp fun h => by simp only [leI, decide_eq_true_eq]; omega)

section
variable {w : World} {d : DAt} {kv : Value} {s : RSt}

set_option maxHeartbeats 2000000 in
theorem dwaits_any (h : DK w d kv s) :
    Calls Try.prog 75 #[.pointer (some ⟨d.b, 0, none⟩)] w fun e w' => ∃ A c, e = .returned (.slice A (waits3 s).length c) ∧ w'.ownsRow w.heap.size 3 1 (.slice A (waits3 s).length c) (waits3 s).length ((waits3 s).map iv) ∧ Below w.heap.size w w' := by
  refine (callsIn_wide (n := 6)).1 ?_
  have HV := Lib.hid (dvalid_any h)
  have c2 : w.cell? ⟨d.b, 2, none⟩ = some (.map (some d.m)) := h.blk.cell 2
  obtain ⟨D, hown, hC⟩ := h.cac
  have hbl := hown.lt
  have hsz := hC.size hown
  have hfew := h.ok.few
  have hsame := h.ok.same
  have hseq : SeqGives Fence.wide 2 Try.prog 82 #[.pointer (some ⟨w.heap.size, 0, none⟩)] encZ (fun ss => ss.Perm (intKeys D)) (Maps.size D) (w.alloc (.cells #[.map (some d.m)] 74)) :=
    AnyZI.keys_gives (ρ := Try.keysA_ren) { Try.keysA with } Fence.wide _ trivial rfl (by omega) w.heap.size d.m 4096 D _ (by simp) (by simp) (by
      obtain ⟨es, clock, hb, Ft, hs, hD⟩ := hown
      exact ⟨es, clock, (Below.heap_alloc _ _ d.m hbl).trans hb, Ft, hs, hD⟩)
  have cK : ∀ mb W, CallsIn Fence.wide 5 Try.prog 78 #[.map mb] W fun e w' => e = .returned (.func (.func 82) #[] #[.pointer (some ⟨W.heap.size, 0, none⟩)]) ∧ w' = W.alloc (.cells #[.map mb] 74) := fun mb W => AnyZI.keys_in Try.keysA Fence.wide 5 trivial rfl mb W
  have cS := AnyZI.sorted_in Try.sortedA Fence.wide 5 trivial trivial trivial trivial rfl (by omega) (sortsA _) (enters_of Try.func81 (by kernel_rfl) rfl) 82 #[.pointer (some ⟨w.heap.size, 0, none⟩)] trivial (enters_of Try.func82 (by kernel_rfl) rfl) _ _ (by unfold maxLen; omega) (by omega) _ hseq
  change CallsIn _ _ Try.prog 77 _ _ _ at cS
  have hw3 : waits3 s = pendTo s.cache s.cache.length := by unfold waits3; rw [pendTo_waits, hsame]
  have HW3 := Lib.hid hw3
  have HP := Lib.hid (hC.keys hown)
  have hfK : Fence.wide.fn 78 := trivial
  have hfS : Fence.wide.fn 77 := trivial
  have hfV : Fence.wide.fn 44 := trivial
  clear h hC hw3 hown
  refine callsIn_of_wp Try.func75 rfl trivial ?_ rfl
  simp only [Try.ntmps75, List.size_toArray, List.length_cons, List.length_nil, Nat.reduceAdd, Nat.reduceSub, Array.replicate_succ, Array.replicate_zero, List.push_toArray, List.append_toArray, List.nil_append, List.cons_append]
  gi_wp2_with (first
    | (gi_at_call 44; refine (callsIn_wide.2 HV.out).mono ?_; rintro e _ ⟨rfl, rfl⟩)
    | (gi_at_call 78; refine (cK _ _).mono ?_; rintro e w' ⟨rfl, rfl⟩)
    | (gi_at_call 77; refine cS.mono ?_; rintro e w' ⟨v, ss, rfl, hS, hrow, hnil, hb⟩))
  go_ret
  have hms := sorted_pend hS HP.out
  have hln : ss.length = (waits3 s).length := by rw [HW3.out]; exact (hS.trans HP.out.symm).length_eq
  have hrow2 : w'.ownsRow (w.alloc (.cells #[.map (some d.m)] 74)).heap.size 3 1 v ss.length ((ss.mergeSort fun x y => decide (x ≤ y)).map encZ) := hrow
  rw [hms, hln, ← HW3.out] at hrow2
  have hown : w'.ownsRow w.heap.size 3 1 v (waits3 s).length ((waits3 s).map iv) := own_mono3 hrow2 (by simp)
  have hB : Below w.heap.size w w' := ((Below.refl _ w).alloc (Nat.le_refl _) _).trans (hb.mono (by simp))
  obtain ⟨A, c, rfl⟩ : ∃ A c, v = .slice A (waits3 s).length c := by
    rcases hown.2 with ⟨rfl, h0⟩ | ⟨g, cap, cur, e, _⟩
    · exact ⟨none, 0, by rw [h0]⟩
    · exact ⟨_, cap, e⟩
  exact ⟨A, c, rfl, hown, hB⟩
theorem dwaits_dead (p : Option Addr) (w : World) (h : Dead w p) : Calls Try.prog 75 #[.pointer p] w fun e w' => e = .returned (.slice none 0 0) ∧ w = w' := by
  have HV := Lib.hid (dvalid_dead p w h)
  clear h
  go_enter Try.func75, Try.ntmps75
  go_wp2_with (go_at_call 44; refine HV.out.mono ?_; rintro e _ ⟨rfl, rfl⟩)
  go_ret
  exact ⟨rfl, rfl⟩
end

end Go.Proofs.Ytddhldmeknmgpaa

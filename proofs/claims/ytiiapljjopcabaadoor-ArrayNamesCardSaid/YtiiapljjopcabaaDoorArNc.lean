/-
  Layer 11 (array): the calls of the statement ArrayNames, each with its answer.
-/
import Derived.Test.YtiiapljjopcabaaDoorArNm
import Derived.Test.YtiiapljjopcabaaDoorArAt
namespace Go.Proofs.YtiiapljjopcabaaDoor.arr
open Go.RowKit

theorem nct1 (W : World) : Calls Tryd.prog 7 #[.slice none 0 0] W fun e w' => e = .returned (.tuple #[.int .i64 1, .int .i64 0]) ∧ Below W.heap.size W w' := (arcount_any none 0 0 [] W rfl Reads.none_ (by decide)).mono (by
  rintro e w' ⟨rfl, rfl⟩
  rw [ct1.1, ct1.2]
  exact ⟨rfl, Below.refl _ _⟩)
theorem nct2 (W : World) (q : Nat) (hq : W.heap.size = q) : Calls Tryd.prog 7 #[.slice (some ⟨q, 0, none⟩) 2 2] (W.alloc (.cells #[.int .i64 0, .int .i64 4096] 3)) fun e w' => e = .returned (.tuple #[.int .i64 0, .int .i64 0]) ∧ Below W.heap.size W w' := by
  subst hq
  refine (arcount_any _ 2 2 [0, 4096] _ rfl (lit_reads W 3 [.int .i64 0, .int .i64 4096]) (by decide)).mono ?_
  rintro e w' ⟨rfl, rfl⟩
  rw [ct2.1, ct2.2]
  exact ⟨rfl, (Below.refl _ W).alloc (Nat.le_refl _) _⟩
theorem nct3 (W : World) (q : Nat) (hq : W.heap.size = q) : Calls Tryd.prog 7 #[.slice (some ⟨q, 0, none⟩) 2 2] (W.alloc (.cells #[.int .i64 65, .int .i64 64] 3)) fun e w' => e = .returned (.tuple #[.int .i64 0, .int .i64 110]) ∧ Below W.heap.size W w' := by
  subst hq
  refine (arcount_any _ 2 2 [65, 64] _ rfl (lit_reads W 3 [.int .i64 65, .int .i64 64]) (by decide)).mono ?_
  rintro e w' ⟨rfl, rfl⟩
  rw [ct3.1, ct3.2]
  exact ⟨rfl, (Below.refl _ W).alloc (Nat.le_refl _) _⟩
theorem nct4 (W : World) (q : Nat) (hq : W.heap.size = q) : Calls Tryd.prog 7 #[.slice (some ⟨q, 0, none⟩) 2 2] (W.alloc (.cells #[.int .i64 0, .int .i64 4097] 3)) fun e w' => e = .returned (.tuple #[.int .i64 0, .int .i64 110]) ∧ Below W.heap.size W w' := by
  subst hq
  refine (arcount_any _ 2 2 [0, 4097] _ rfl (lit_reads W 3 [.int .i64 0, .int .i64 4097]) (by decide)).mono ?_
  rintro e w' ⟨rfl, rfl⟩
  rw [ct4.1, ct4.2]
  exact ⟨rfl, (Below.refl _ W).alloc (Nat.le_refl _) _⟩
theorem nct5 (W : World) (q : Nat) (hq : W.heap.size = q) : Calls Tryd.prog 7 #[.slice (some ⟨q, 0, none⟩) 1 1] (W.alloc (.cells #[.int .i64 (-1)] 3)) fun e w' => e = .returned (.tuple #[.int .i64 0, .int .i64 110]) ∧ Below W.heap.size W w' := by
  subst hq
  refine (arcount_any _ 1 1 [-1] _ rfl (lit_reads W 3 [.int .i64 (-1)]) (by decide)).mono ?_
  rintro e w' ⟨rfl, rfl⟩
  rw [ct5.1, ct5.2]
  exact ⟨rfl, (Below.refl _ W).alloc (Nat.le_refl _) _⟩
theorem nct6 (W : World) (q : Nat) (hq : W.heap.size = q) : Calls Tryd.prog 7 #[.slice (some ⟨q, 0, none⟩) 5 5] (W.alloc (.cells #[.int .i64 0, .int .i64 0, .int .i64 0, .int .i64 0, .int .i64 0] 3)) fun e w' => e = .returned (.tuple #[.int .i64 0, .int .i64 110]) ∧ Below W.heap.size W w' := by
  subst hq
  refine (arcount_any _ 5 5 [0, 0, 0, 0, 0] _ rfl (lit_reads W 3 [.int .i64 0, .int .i64 0, .int .i64 0, .int .i64 0, .int .i64 0]) (by decide)).mono ?_
  rintro e w' ⟨rfl, rfl⟩
  rw [ct6.1, ct6.2]
  exact ⟨rfl, (Below.refl _ W).alloc (Nat.le_refl _) _⟩
theorem nat1 (W : World) (q : Nat) (hq : W.heap.size = q) : Calls Tryd.prog 8 #[.slice (some ⟨q, 0, none⟩) 2 2, .int .i64 4] (W.alloc (.cells #[.int .i64 2, .int .i64 3] 3)) fun e w' => ∃ A c, e = .returned (.tuple #[.slice A 2 c, .bool true]) ∧ Reads w' w'.heap.size 1 A 2 [.int .i64 1, .int .i64 1] ∧ Below W.heap.size W w' := by
  subst hq
  have hb : Below W.heap.size W (W.alloc (.cells #[.int .i64 2, .int .i64 3] 3)) := (Below.refl _ W).alloc (Nat.le_refl _) _
  refine (arat_any _ 2 2 [2, 3] 4 _ rfl (lit_reads W 3 [.int .i64 2, .int .i64 3]) (by decide) (by decide)).mono ?_
  rintro e w' ⟨A, c, rfl, o, b⟩
  rw [at1.1]
  simp only [at1.2] at o ⊢
  exact ⟨A, c, rfl, Reads.of_own o, hb.trans (b.mono hb.size)⟩
theorem nat2 (W : World) (q : Nat) (hq : W.heap.size = q) : Calls Tryd.prog 8 #[.slice (some ⟨q, 0, none⟩) 2 2, .int .i64 6] (W.alloc (.cells #[.int .i64 2, .int .i64 3] 3)) fun e w' => ∃ A c, e = .returned (.tuple #[.slice A 0 c, .bool false]) ∧ Reads w' w'.heap.size 1 A 0 [] ∧ Below W.heap.size W w' := by
  subst hq
  have hb : Below W.heap.size W (W.alloc (.cells #[.int .i64 2, .int .i64 3] 3)) := (Below.refl _ W).alloc (Nat.le_refl _) _
  refine (arat_any _ 2 2 [2, 3] 6 _ rfl (lit_reads W 3 [.int .i64 2, .int .i64 3]) (by decide) (by decide)).mono ?_
  rintro e w' ⟨A, c, rfl, o, b⟩
  rw [at2.1]
  simp only [at2.2] at o ⊢
  exact ⟨A, c, rfl, Reads.of_own o, hb.trans (b.mono hb.size)⟩
theorem nat3 (W : World) : Calls Tryd.prog 8 #[.slice none 0 0, .int .i64 0] W fun e w' => ∃ A c, e = .returned (.tuple #[.slice A 0 c, .bool true]) ∧ Reads w' w'.heap.size 1 A 0 [] ∧ Below W.heap.size W w' := (arat_any none 0 0 [] 0 _ rfl Reads.none_ (by decide) (by decide)).mono (by
  rintro e w' ⟨A, c, rfl, o, b⟩
  rw [at3.1]
  simp only [at3.2] at o ⊢
  exact ⟨A, c, rfl, Reads.of_own o, b⟩)
theorem npl1 (W : World) (q : Nat) (hq : W.heap.size = q) : Calls Tryd.prog 9 #[.slice (some ⟨q, 0, none⟩) 2 2, .slice (some ⟨q + 1, 0, none⟩) 2 2] ((W.alloc (.cells #[.int .i64 2, .int .i64 3] 3)).alloc (.cells #[.int .i64 0, .int .i64 3] 3)) fun e w' => e = .returned (.tuple #[.int .i64 0, .bool false]) ∧ Below W.heap.size W w' := by
  subst hq
  have hb : Below W.heap.size W (W.alloc (.cells #[.int .i64 2, .int .i64 3] 3)) := (Below.refl _ W).alloc (Nat.le_refl _) _
  have r1 := lit_reads W 3 [.int .i64 2, .int .i64 3]
  have r2 := lit_reads (W.alloc (.cells #[.int .i64 2, .int .i64 3] 3)) 3 [.int .i64 0, .int .i64 3]
  have e2 : (⟨(W.alloc (.cells #[.int .i64 2, .int .i64 3] 3)).heap.size, 0, none⟩ : Addr) = ⟨W.heap.size + 1, 0, none⟩ := by rw [World.size_alloc]
  rw [e2] at r2
  refine (arplace_any _ _ 2 2 2 2 [2, 3] [0, 3] _ rfl ((r1.alloc (Nat.le_refl _) _).more (by simp)) (by decide) rfl r2 (by decide)).mono ?_
  rintro e w' ⟨rfl, rfl⟩
  rw [pl1.1, pl1.2]
  exact ⟨rfl, hb.alloc hb.size _⟩
theorem npl2 (W : World) (q : Nat) (hq : W.heap.size = q) : Calls Tryd.prog 9 #[.slice (some ⟨q, 0, none⟩) 2 2, .slice (some ⟨q + 1, 0, none⟩) 1 1] ((W.alloc (.cells #[.int .i64 2, .int .i64 3] 3)).alloc (.cells #[.int .i64 0] 3)) fun e w' => e = .returned (.tuple #[.int .i64 0, .bool false]) ∧ Below W.heap.size W w' := by
  subst hq
  have hb : Below W.heap.size W (W.alloc (.cells #[.int .i64 2, .int .i64 3] 3)) := (Below.refl _ W).alloc (Nat.le_refl _) _
  have r1 := lit_reads W 3 [.int .i64 2, .int .i64 3]
  have r2 := lit_reads (W.alloc (.cells #[.int .i64 2, .int .i64 3] 3)) 3 [.int .i64 0]
  have e2 : (⟨(W.alloc (.cells #[.int .i64 2, .int .i64 3] 3)).heap.size, 0, none⟩ : Addr) = ⟨W.heap.size + 1, 0, none⟩ := by rw [World.size_alloc]
  rw [e2] at r2
  refine (arplace_any _ _ 2 2 1 1 [2, 3] [0] _ rfl ((r1.alloc (Nat.le_refl _) _).more (by simp)) (by decide) rfl r2 (by decide)).mono ?_
  rintro e w' ⟨rfl, rfl⟩
  rw [pl2.1, pl2.2]
  exact ⟨rfl, hb.alloc hb.size _⟩
theorem nsh (W : World) (q : Nat) (hq : W.heap.size = q) (A : Option Addr) (c : Nat) (h : Reads W W.heap.size 1 A 2 [.int .i64 1, .int .i64 1]) : Calls Tryd.prog 10 #[.slice A 2 c, .slice (some ⟨q, 0, none⟩) 2 2] (W.alloc (.cells #[.int .i64 1, .int .i64 1] 3)) fun e w' => e = .returned (.bool true) ∧ Below W.heap.size W w' := by
  subst hq
  have hb : Below W.heap.size W (W.alloc (.cells #[.int .i64 1, .int .i64 1] 3)) := (Below.refl _ W).alloc (Nat.le_refl _) _
  refine (r11shapes_any A _ c 2 2 2 [1, 1] [1, 1] _ rfl rfl ((h.below hb).more hb.size) (lit_reads W 3 [.int .i64 1, .int .i64 1]) (by decide) (by decide)).mono ?_
  rintro e w' ⟨rfl, b⟩
  exact ⟨by rw [decide_eq_true rfl], hb.trans (b.mono hb.size)⟩
theorem nm_wrap (x : Int) : -9223372036854775808 ≤ wrap64 x ∧ wrap64 x ≤ 9223372036854775807 := by
  unfold wrap64
  constructor
  · have := Int.emod_nonneg (x + 9223372036854775808) (b := 18446744073709551616) (by decide)
    omega
  · have := Int.emod_lt_of_pos (x + 9223372036854775808) (b := 18446744073709551616) (by decide)
    omega
theorem nmk1 (W : World) (q : Nat) (hq : W.heap.size = q) : Calls Tryd.prog 11 #[.int .i64 1, .slice (some ⟨q, 0, none⟩) 2 2, .func (.func 12) #[] #[]] (W.alloc (.cells #[.int .i64 2, .int .i64 3] 3)) fun e w' => ∃ A0 c0 A1 c1, e = .returned (.tuple #[.agg #[.int .i64 1, .slice A0 2 c0, .slice A1 6 c1], .int .i64 0]) ∧ AEl w' ⟨1, [2, 3], [1, 2, 3, 4, 5, 6]⟩ ⟨A0, c0, A1, c1⟩ ∧ Below W.heap.size W w' := by
  subst hq
  have hb : Below W.heap.size W (W.alloc (.cells #[.int .i64 2, .int .i64 3] 3)) := (Below.refl _ W).alloc (Nat.le_refl _) _
  refine (armake_any 1 _ 2 2 [2, 3] 12 #[] (enters_of Tryd.func12 (by kernel_rfl) rfl) nf1 _ rfl (lit_reads W 3 [.int .i64 2, .int .i64 3]) (by decide) (fun z => nm_wrap _) (fun i W' _ => n1_any _ _)).mono ?_
  rintro e w' ⟨v, rfl, hg⟩
  have hm : makeA 1 [2, 3] nf1 = ⟨1, [2, 3], [1, 2, 3, 4, 5, 6]⟩ := by
    have h := mk1.2.2
    unfold makeA at h ⊢
    rw [show fL nf1 (prodI [2, 3]).toNat = [1, 2, 3, 4, 5, 6] from h]
  rw [mk1.1]
  rw [if_pos mk1.2.1, hm] at hg
  obtain ⟨q, rfl, ho, b⟩ := hg
  exact ⟨q.A0, q.c0, q.A1, q.c1, rfl, ho.el (by decide) (by decide) (by decide), hb.trans (b.mono hb.size)⟩
theorem nmk2 (W : World) (q : Nat) (hq : W.heap.size = q) : Calls Tryd.prog 11 #[.int .i64 2, .slice (some ⟨q, 0, none⟩) 1 1, .func (.func 13) #[] #[]] (W.alloc (.cells #[.int .i64 1] 3)) fun e w' => ∃ A0 c0 A1 c1, e = .returned (.tuple #[.agg #[.int .i64 0, .slice A0 0 c0, .slice A1 0 c1], .int .i64 110]) ∧ Below W.heap.size W w' := by
  subst hq
  have hb : Below W.heap.size W (W.alloc (.cells #[.int .i64 1] 3)) := (Below.refl _ W).alloc (Nat.le_refl _) _
  refine (armake_any 2 _ 1 1 [1] 13 #[] (enters_of Tryd.func13 (by kernel_rfl) rfl) (fun _ => 55296) _ rfl (lit_reads W 3 [.int .i64 1]) (by decide) (fun z => by decide) (fun i W' _ => n2_any _ _)).mono ?_
  rintro e w' ⟨v, rfl, hg⟩
  rw [mk2]
  rw [if_neg (by decide +kernel)] at hg
  obtain ⟨q, rfl, ho, b⟩ := hg
  exact ⟨q.A0, q.c0, q.A1, q.c1, rfl, hb.trans (b.mono hb.size)⟩
theorem nmk3 (W : World) : Calls Tryd.prog 11 #[.int .i64 3, .slice none 0 0, .func (.func 14) #[] #[]] W fun e w' => ∃ A0 c0 A1 c1, e = .returned (.tuple #[.agg #[.int .i64 0, .slice A0 0 c0, .slice A1 0 c1], .int .i64 110]) ∧ Below W.heap.size W w' := by
  refine (armake_any 3 none 0 0 [] 14 #[] (enters_of Tryd.func14 (by kernel_rfl) rfl) (fun _ => 0) _ rfl Reads.none_ (by decide) (fun z => by decide) (fun i W' _ => n3_any _ _)).mono ?_
  rintro e w' ⟨v, rfl, hg⟩
  rw [mk3]
  rw [if_neg (by decide +kernel)] at hg
  obtain ⟨q, rfl, ho, b⟩ := hg
  exact ⟨q.A0, q.c0, q.A1, q.c1, rfl, b⟩
theorem ntx1 (p : AP) (W : World) (h : AEl W ⟨1, [1], [7]⟩ p) (ht : Tab W) : Calls Tryd.prog 15 #[.agg (arC ⟨1, [1], [7]⟩ p), .string ⟨#[49, 226, 141, 180, 55]⟩] W fun e w' => e = .returned (.bool true) ∧ Below W.heap.size W w' := by
  have := artextl_any _ p [49, 226, 141, 180, 55] W h ht
  rw [nm1] at this
  exact this
theorem ntx2 (p : AP) (W : World) (h : AEl W ⟨2, [4], [105, 116, 39, 115]⟩ p) (ht : Tab W) : Calls Tryd.prog 15 #[.agg (arC ⟨2, [4], [105, 116, 39, 115]⟩ p), .string ⟨#[39, 105, 116, 39, 39, 115, 39]⟩] W fun e w' => e = .returned (.bool true) ∧ Below W.heap.size W w' := by
  have := artextl_any _ p [39, 105, 116, 39, 39, 115, 39] W h ht
  rw [nm2] at this
  exact this
theorem ntx3 (p : AP) (W : World) (h : AEl W ⟨1, [2, 3], [1, 2, 3, 4, 5, 6]⟩ p) (ht : Tab W) : Calls Tryd.prog 15 #[.agg (arC ⟨1, [2, 3], [1, 2, 3, 4, 5, 6]⟩ p), .string ⟨#[50, 32, 51, 226, 141, 180, 49, 32, 50, 32, 51, 32, 52, 32, 53, 32, 54]⟩] W fun e w' => e = .returned (.bool true) ∧ Below W.heap.size W w' := by
  have := artextl_any _ p [50, 32, 51, 226, 141, 180, 49, 32, 50, 32, 51, 32, 52, 32, 53, 32, 54] W h ht
  rw [nm3] at this
  exact this
theorem ntx4 (p : AP) (W : World) (h : AEl W ⟨1, [0], []⟩ p) (ht : Tab W) : Calls Tryd.prog 15 #[.agg (arC ⟨1, [0], []⟩ p), .string ⟨#[48, 226, 141, 180, 48]⟩] W fun e w' => e = .returned (.bool true) ∧ Below W.heap.size W w' := by
  have := artextl_any _ p [48, 226, 141, 180, 48] W h ht
  rw [nm4] at this
  exact this
theorem ntx5 (p : AP) (W : World) (h : AEl W ⟨2, [0], []⟩ p) (ht : Tab W) : Calls Tryd.prog 15 #[.agg (arC ⟨2, [0], []⟩ p), .string ⟨#[39, 39]⟩] W fun e w' => e = .returned (.bool true) ∧ Below W.heap.size W w' := by
  have := artextl_any _ p [39, 39] W h ht
  rw [nm5] at this
  exact this
theorem ntx6 (p : AP) (W : World) (h : AEl W ⟨2, [], [97]⟩ p) (ht : Tab W) : Calls Tryd.prog 15 #[.agg (arC ⟨2, [], [97]⟩ p), .string ⟨#[39, 97, 39]⟩] W fun e w' => e = .returned (.bool true) ∧ Below W.heap.size W w' := by
  have := artextl_any _ p [39, 97, 39] W h ht
  rw [nm6] at this
  exact this
theorem ntx7 (p : AP) (W : World) (h : AEl W ⟨2, [1], [97]⟩ p) (ht : Tab W) : Calls Tryd.prog 15 #[.agg (arC ⟨2, [1], [97]⟩ p), .string ⟨#[49, 226, 141, 180, 39, 97, 39]⟩] W fun e w' => e = .returned (.bool true) ∧ Below W.heap.size W w' := by
  have := artextl_any _ p [49, 226, 141, 180, 39, 97, 39] W h ht
  rw [nm7] at this
  exact this
theorem ntx8 (p : AP) (W : World) (h : AEl W ⟨2, [0, 2], []⟩ p) (ht : Tab W) : Calls Tryd.prog 15 #[.agg (arC ⟨2, [0, 2], []⟩ p), .string ⟨#[48, 32, 50, 226, 141, 180, 39, 39]⟩] W fun e w' => e = .returned (.bool true) ∧ Below W.heap.size W w' := by
  have := artextl_any _ p [48, 32, 50, 226, 141, 180, 39, 39] W h ht
  rw [nm8] at this
  exact this
theorem ntx9 (p : AP) (W : World) (h : AEl W ⟨1, [], [-9223372036854775808]⟩ p) (ht : Tab W) : Calls Tryd.prog 15 #[.agg (arC ⟨1, [], [-9223372036854775808]⟩ p), .string ⟨#[194, 175, 57, 50, 50, 51, 51, 55, 50, 48, 51, 54, 56, 53, 52, 55, 55, 53, 56, 48, 56]⟩] W fun e w' => e = .returned (.bool true) ∧ Below W.heap.size W w' := by
  have := artextl_any _ p [194, 175, 57, 50, 50, 51, 51, 55, 50, 48, 51, 54, 56, 53, 52, 55, 55, 53, 56, 48, 56] W h ht
  rw [nm9] at this
  exact this
theorem ntx6l (W : World) (q : Nat) (hq : W.heap.size = q) (ht : Tab W) : Calls Tryd.prog 15 #[.agg #[.int .i64 2, .slice none 0 0, .slice (some ⟨q, 0, none⟩) 1 1], .string ⟨#[39, 97, 39]⟩] (W.alloc (.cells #[.int .i64 97] 2)) fun e w' => e = .returned (.bool true) ∧ Below W.heap.size W w' := by
  subst hq
  have hb : Below W.heap.size W (W.alloc (.cells #[.int .i64 97] 2)) := (Below.refl _ W).alloc (Nat.le_refl _) _
  refine (ntx6 ⟨none, 0, some ⟨W.heap.size, 0, none⟩, 1⟩ _ ⟨Reads.none_, lit_reads W 2 [.int .i64 97], by decide, by decide, by decide⟩ (ht.below hb)).mono ?_
  rintro e w' ⟨rfl, b⟩
  exact ⟨rfl, hb.trans (b.mono hb.size)⟩
theorem ntx8l (W : World) (q : Nat) (hq : W.heap.size = q) (ht : Tab W) : Calls Tryd.prog 15 #[.agg #[.int .i64 2, .slice (some ⟨q, 0, none⟩) 2 2, .slice none 0 0], .string ⟨#[48, 32, 50, 226, 141, 180, 39, 39]⟩] (W.alloc (.cells #[.int .i64 0, .int .i64 2] 3)) fun e w' => e = .returned (.bool true) ∧ Below W.heap.size W w' := by
  subst hq
  have hb : Below W.heap.size W (W.alloc (.cells #[.int .i64 0, .int .i64 2] 3)) := (Below.refl _ W).alloc (Nat.le_refl _) _
  refine (ntx8 ⟨some ⟨W.heap.size, 0, none⟩, 2, none, 0⟩ _ ⟨lit_reads W 3 [.int .i64 0, .int .i64 2], Reads.none_, by decide, by decide, by decide⟩ (ht.below hb)).mono ?_
  rintro e w' ⟨rfl, b⟩
  exact ⟨rfl, hb.trans (b.mono hb.size)⟩
theorem ntx3l (A0 A1 : Option Addr) (c0 c1 : Nat) (W : World) (h : AEl W ⟨1, [2, 3], [1, 2, 3, 4, 5, 6]⟩ ⟨A0, c0, A1, c1⟩) (ht : Tab W) : Calls Tryd.prog 15 #[.agg #[.int .i64 1, .slice A0 2 c0, .slice A1 6 c1], .string ⟨#[50, 32, 51, 226, 141, 180, 49, 32, 50, 32, 51, 32, 52, 32, 53, 32, 54]⟩] W fun e w' => e = .returned (.bool true) ∧ Below W.heap.size W w' := by
  have hA : arC ⟨1, [2, 3], [1, 2, 3, 4, 5, 6]⟩ ⟨A0, c0, A1, c1⟩ = #[.int .i64 1, .slice A0 2 c0, .slice A1 6 c1] := rfl
  have := ntx3 ⟨A0, c0, A1, c1⟩ W h ht
  rw [hA] at this
  exact this
theorem nvc1 (W : World) (q : Nat) (hq : W.heap.size = q) : Calls Tryd.prog 16 #[.slice (some ⟨q, 0, none⟩) 1 1] (W.alloc (.cells #[.int .i64 7] 2)) fun e w' => ∃ p, e = .returned (.agg (arC ⟨1, [1], [7]⟩ p)) ∧ AEl w' ⟨1, [1], [7]⟩ p ∧ Below W.heap.size W w' := by
  subst hq
  have hb : Below W.heap.size W (W.alloc (.cells #[.int .i64 7] 2)) := (Below.refl _ W).alloc (Nat.le_refl _) _
  refine (arvector_any _ 1 1 [7] _ rfl (lit_reads W 2 [.int .i64 7]) (by decide)).mono ?_
  rintro e w' ⟨v, rfl, p, rfl, o, b⟩
  exact ⟨p, rfl, o.el (by decide) (by decide) (by decide), hb.trans (b.mono hb.size)⟩
theorem nvc2 (W : World) : Calls Tryd.prog 16 #[.slice none 0 0] W fun e w' => ∃ p, e = .returned (.agg (arC ⟨1, [0], []⟩ p)) ∧ AEl w' ⟨1, [0], []⟩ p ∧ Below W.heap.size W w' := by
  refine (arvector_any none 0 0 [] _ rfl Reads.none_ (by decide)).mono ?_
  rintro e w' ⟨v, rfl, p, rfl, o, b⟩
  exact ⟨p, rfl, o.el (by decide) (by decide) (by decide), b⟩
theorem nsc (W : World) : Calls Tryd.prog 18 #[.int .i64 (-9223372036854775808)] W fun e w' => ∃ p, e = .returned (.agg (arC ⟨1, [], [-9223372036854775808]⟩ p)) ∧ AEl w' ⟨1, [], [-9223372036854775808]⟩ p ∧ Below W.heap.size W w' := by
  refine (arscalar_any (-9223372036854775808) W).mono ?_
  rintro e w' ⟨v, rfl, p, rfl, o, b⟩
  exact ⟨p, rfl, o.el (by decide) (by decide) (by decide), b⟩
theorem ntz (W : World) (ht : Tab W) : Calls Tryd.prog 19 #[.agg #[.int .i64 0, .slice none 0 0, .slice none 0 0]] W fun e w' => e = .returned (.tuple #[.string ⟨#[]⟩, .int .i64 110]) ∧ Below W.heap.size W w' := by
  have := artext_any ⟨0, [], []⟩ ⟨none, 0, none, 0⟩ W ⟨Reads.none_, Reads.none_, by decide, by decide, by decide⟩ ht
  unfold textV checkE at this
  rw [ck5] at this
  exact this
theorem nck1 (W : World) : Calls Tryd.prog 20 #[.agg #[.int .i64 1, .slice none 0 0, .slice none 0 0]] W fun e w' => e = .returned (.int .i64 110) ∧ Below W.heap.size W w' := by
  have := archeck_any ⟨1, [], []⟩ ⟨none, 0, none, 0⟩ W ⟨Reads.none_, Reads.none_, by decide, by decide, by decide⟩
  rw [ck1] at this
  exact this
theorem nck2 (W : World) (q : Nat) (hq : W.heap.size = q) : Calls Tryd.prog 20 #[.agg #[.int .i64 2, .slice none 0 0, .slice (some ⟨q, 0, none⟩) 1 1]] (W.alloc (.cells #[.int .i64 1114112] 2)) fun e w' => e = .returned (.int .i64 110) ∧ Below W.heap.size W w' := by
  subst hq
  have hb : Below W.heap.size W (W.alloc (.cells #[.int .i64 1114112] 2)) := (Below.refl _ W).alloc (Nat.le_refl _) _
  have := archeck_any ⟨2, [], [1114112]⟩ ⟨none, 0, some ⟨W.heap.size, 0, none⟩, 1⟩ (W.alloc (.cells #[.int .i64 1114112] 2)) ⟨Reads.none_, lit_reads W 2 [.int .i64 1114112], by decide, by decide, by decide⟩
  rw [ck2] at this
  refine this.mono ?_
  rintro e w' ⟨rfl, b⟩
  exact ⟨rfl, hb.trans (b.mono hb.size)⟩
theorem nck3 (W : World) (q : Nat) (hq : W.heap.size = q) : Calls Tryd.prog 20 #[.agg #[.int .i64 2, .slice none 0 0, .slice (some ⟨q, 0, none⟩) 1 1]] (W.alloc (.cells #[.int .i64 (-1)] 2)) fun e w' => e = .returned (.int .i64 110) ∧ Below W.heap.size W w' := by
  subst hq
  have hb : Below W.heap.size W (W.alloc (.cells #[.int .i64 (-1)] 2)) := (Below.refl _ W).alloc (Nat.le_refl _) _
  have := archeck_any ⟨2, [], [-1]⟩ ⟨none, 0, some ⟨W.heap.size, 0, none⟩, 1⟩ (W.alloc (.cells #[.int .i64 (-1)] 2)) ⟨Reads.none_, lit_reads W 2 [.int .i64 (-1)], by decide, by decide, by decide⟩
  rw [ck3] at this
  refine this.mono ?_
  rintro e w' ⟨rfl, b⟩
  exact ⟨rfl, hb.trans (b.mono hb.size)⟩
theorem nck4 (W : World) (q : Nat) (hq : W.heap.size = q) : Calls Tryd.prog 20 #[.agg #[.int .i64 2, .slice none 0 0, .slice (some ⟨q, 0, none⟩) 1 1]] (W.alloc (.cells #[.int .i64 1114111] 2)) fun e w' => e = .returned (.int .i64 0) ∧ Below W.heap.size W w' := by
  subst hq
  have hb : Below W.heap.size W (W.alloc (.cells #[.int .i64 1114111] 2)) := (Below.refl _ W).alloc (Nat.le_refl _) _
  have := archeck_any ⟨2, [], [1114111]⟩ ⟨none, 0, some ⟨W.heap.size, 0, none⟩, 1⟩ (W.alloc (.cells #[.int .i64 1114111] 2)) ⟨Reads.none_, lit_reads W 2 [.int .i64 1114111], by decide, by decide, by decide⟩
  rw [ck4] at this
  refine this.mono ?_
  rintro e w' ⟨rfl, b⟩
  exact ⟨rfl, hb.trans (b.mono hb.size)⟩
theorem nch1 (W : World) : Calls Tryd.prog 17 #[.string ⟨#[105, 116, 39, 115]⟩] W fun e w' => ∃ p, e = .returned (.agg (arC ⟨2, [4], [105, 116, 39, 115]⟩ p)) ∧ AEl w' ⟨2, [4], [105, 116, 39, 115]⟩ p ∧ Below W.heap.size W w' := by
  have := arrunes_any ⟨#[105, 116, 39, 115]⟩ W (by decide)
  rw [rn1] at this
  refine this.mono ?_
  rintro e w' ⟨v, rfl, p, rfl, o, b⟩
  exact ⟨p, rfl, o.el (by decide) (by decide) (by decide), b⟩
theorem nch2 (W : World) : Calls Tryd.prog 17 #[.string ⟨#[]⟩] W fun e w' => ∃ p, e = .returned (.agg (arC ⟨2, [0], []⟩ p)) ∧ AEl w' ⟨2, [0], []⟩ p ∧ Below W.heap.size W w' := by
  have := arrunes_any ⟨#[]⟩ W (by decide)
  rw [rn2] at this
  refine this.mono ?_
  rintro e w' ⟨v, rfl, p, rfl, o, b⟩
  exact ⟨p, rfl, o.el (by decide) (by decide) (by decide), b⟩
theorem nch3 (W : World) : Calls Tryd.prog 17 #[.string ⟨#[97]⟩] W fun e w' => ∃ p, e = .returned (.agg (arC ⟨2, [1], [97]⟩ p)) ∧ AEl w' ⟨2, [1], [97]⟩ p ∧ Below W.heap.size W w' := by
  have := arrunes_any ⟨#[97]⟩ W (by decide)
  rw [rn3] at this
  refine this.mono ?_
  rintro e w' ⟨v, rfl, p, rfl, o, b⟩
  exact ⟨p, rfl, o.el (by decide) (by decide) (by decide), b⟩
theorem nch4 (W : World) : Calls Tryd.prog 17 #[.string ⟨#[255, 195, 169]⟩] W fun e w' => ∃ p, e = .returned (.agg (arC ⟨2, [2], [65533, 233]⟩ p)) ∧ AEl w' ⟨2, [2], [65533, 233]⟩ p ∧ Below W.heap.size W w' := by
  have := arrunes_any ⟨#[255, 195, 169]⟩ W (by decide)
  rw [rn4] at this
  refine this.mono ?_
  rintro e w' ⟨v, rfl, p, rfl, o, b⟩
  exact ⟨p, rfl, o.el (by decide) (by decide) (by decide), b⟩
theorem nch4l (W : World) : Calls Tryd.prog 17 #[.string ⟨#[255, 195, 169]⟩] W fun e w' => ∃ A0 c0 A1 c1, e = .returned (.agg #[.int .i64 2, .slice A0 1 c0, .slice A1 2 c1]) ∧ AEl w' ⟨2, [2], [65533, 233]⟩ ⟨A0, c0, A1, c1⟩ ∧ Below W.heap.size W w' := (nch4 W).mono (by
  rintro e w' ⟨p, rfl, h, b⟩
  exact ⟨p.A0, p.c0, p.A1, p.c1, rfl, h, b⟩)
theorem nrs (W : World) (q : Nat) (hq : W.heap.size = q) (A0 A1 : Option Addr) (c0 c1 : Nat) (h : AEl W ⟨2, [2], [65533, 233]⟩ ⟨A0, c0, A1, c1⟩) : Calls Tryd.prog 22 #[.agg #[.int .i64 2, .slice A0 1 c0, .slice A1 2 c1], .agg #[.int .i64 2, .slice (some ⟨q, 0, none⟩) 1 1, .slice (some ⟨q + 1, 0, none⟩) 2 2]] ((W.alloc (.cells #[.int .i64 2] 3)).alloc (.cells #[.int .i64 65533, .int .i64 233] 2)) fun e w' => e = .returned (.bool true) ∧ Below W.heap.size W w' := by
  subst hq
  have hb : Below W.heap.size W (W.alloc (.cells #[.int .i64 2] 3)) := (Below.refl _ W).alloc (Nat.le_refl _) _
  have hb2 := hb.alloc hb.size (.cells #[.int .i64 65533, .int .i64 233] 2)
  have r1 := lit_reads W 3 [.int .i64 2]
  have r2 := lit_reads (W.alloc (.cells #[.int .i64 2] 3)) 2 [.int .i64 65533, .int .i64 233]
  have e2 : (⟨(W.alloc (.cells #[.int .i64 2] 3)).heap.size, 0, none⟩ : Addr) = ⟨W.heap.size + 1, 0, none⟩ := by rw [World.size_alloc]
  rw [e2] at r2
  refine (r11same_eq ⟨2, [2], [65533, 233]⟩ ⟨A0, c0, A1, c1⟩ ⟨some ⟨W.heap.size, 0, none⟩, 1, some ⟨W.heap.size + 1, 0, none⟩, 2⟩ _ (h.below hb2) ⟨(r1.alloc (Nat.le_refl _) _).more (by simp), r2, by decide, by decide, by decide⟩).mono ?_
  rintro e w' ⟨rfl, b⟩
  exact ⟨rfl, hb2.trans (b.mono hb2.size)⟩
end Go.Proofs.YtiiapljjopcabaaDoor.arr

/-
  The walk of the statement FoldTurned.
-/
import Derived.Test.YtkabdkblcgklmaaFoOuter
import Derived.Test.YtkabdkblcgklmaaFoScan
import Derived.Test.YtkabdkblcgklmaaArOpen
import Derived.Test.YtkabdkblcgklmaaTuAll3
namespace Go.Proofs.Ytkabdkblcgklmaa.foldTurned
open Go.RowKit Go.Proofs.Ytkabdkblcgklmaa.arr Go.Proofs.Ytkabdkblcgklmaa.sc Go.Proofs.Ytkabdkblcgklmaa.fo

def evenF (f : Int) : Prop := f = 1 ∨ f = 3 ∨ f = 6 ∨ f = 7 ∨ f = 9 ∨ f = 10
theorem fit_err (n : Int) : fitE n = 0 ∨ fitE n = 7 := by
  unfold fitE
  split
  · exact .inl rfl
  · exact .inr rfl
theorem two_even {f : Int} (h : evenF f) (x y : Int) : twoV f x y = twoV f y x ∧ twoE f x y = twoE f y x ∧ (twoE f x y = 0 ∨ twoE f x y = 7) := by
  rcases h with rfl | rfl | rfl | rfl | rfl | rfl
  · show fitV (x + y) = fitV (y + x) ∧ fitE (x + y) = fitE (y + x) ∧ (fitE (x + y) = 0 ∨ fitE (x + y) = 7)
    rw [Int.add_comm x y]
    exact ⟨rfl, rfl, fit_err _⟩
  · show fitV (x * y) = fitV (y * x) ∧ fitE (x * y) = fitE (y * x) ∧ (fitE (x * y) = 0 ∨ fitE (x * y) = 7)
    rw [Int.mul_comm x y]
    exact ⟨rfl, rfl, fit_err _⟩
  · exact ⟨Int.min_comm x y, rfl, .inl rfl⟩
  · exact ⟨Int.max_comm x y, rfl, .inl rfl⟩
  · refine ⟨?_, rfl, .inl rfl⟩
    show truthV (decide (x = y)) = truthV (decide (y = x))
    rw [show decide (x = y) = decide (y = x) from decide_eq_decide.2 eq_comm]
  · refine ⟨?_, rfl, .inl rfl⟩
    show truthV (decide (x ≠ y)) = truthV (decide (y ≠ x))
    rw [show decide (x ≠ y) = decide (y ≠ x) from decide_eq_decide.2 ne_comm]
/-- The number of the same pair, turned about. -/
def swN (n1 n2 n : Nat) : Nat := n2 * (n % n1) + n / n1
theorem sw_ok {n1 n2 n : Nat} (h : n < n2 * n1) : swN n1 n2 n < n1 * n2 ∧ swN n1 n2 n / n2 = n % n1 ∧ swN n1 n2 n % n2 = n / n1 := by
  have h1 : 0 < n1 := by
    rcases Nat.eq_zero_or_pos n1 with e | e
    · rw [e, Nat.mul_zero] at h; omega
    · exact e
  have h2 : n / n1 < n2 := Nat.div_lt_of_lt_mul (by rw [Nat.mul_comm]; exact h)
  have h3 : n % n1 < n1 := Nat.mod_lt _ h1
  unfold swN
  refine ⟨?_, ?_, ?_⟩
  · have : n2 * (n % n1) + n2 ≤ n2 * n1 := by
      rw [← Nat.mul_succ]
      exact Nat.mul_le_mul_left _ h3
    rw [Nat.mul_comm n1 n2]
    omega
  · have h20 : 0 < n2 := by
      generalize n / n1 = d at *
      omega
    rw [Nat.mul_add_div h20, Nat.div_eq_of_lt h2, Nat.add_zero]
  · rw [Nat.mul_add_mod, Nat.mod_eq_of_lt h2]
theorem gE_vec (f : Int) (l m : List Int) (n : Nat) : outGE f (vecF l) (vecF m) n = twoE f (l.getD (n / m.length) 0) (m.getD (n % m.length) 0) := by
  unfold outGE mixE
  rw [if_pos (show (vecF l).kind = (vecF m).kind from rfl)]
  rfl
theorem gV_vec (f : Int) (l m : List Int) (n : Nat) : outGV f (vecF l) (vecF m) n = twoV f (l.getD (n / m.length) 0) (m.getD (n % m.length) 0) := by
  unfold outGV mixV
  rw [if_pos (show (vecF l).kind = (vecF m).kind from rfl)]
  rfl
theorem g_swap {f : Int} (h : evenF f) (l m : List Int) {n : Nat} (hn : n < m.length * l.length) :
    outGE f (vecF m) (vecF l) n = outGE f (vecF l) (vecF m) (swN l.length m.length n) ∧ outGV f (vecF m) (vecF l) n = outGV f (vecF l) (vecF m) (swN l.length m.length n) := by
  obtain ⟨_, h2, h3⟩ := sw_ok hn
  rw [gE_vec, gE_vec, gV_vec, gV_vec, h2, h3]
  obtain ⟨e1, e2, _⟩ := two_even h (m.getD (n / l.length) 0) (l.getD (n % l.length) 0)
  exact ⟨e2, e1⟩
theorem two_shape {n1 n2 : Nat} (h1 : n1 ≤ 60) (h2 : n2 ≤ 60) : okShape [(n1 : Int), (n2 : Int)] = true := by
  refine okShape_iff.2 ⟨by simp, ?_, ?_⟩
  · rw [List.all_cons, List.all_cons, List.all_nil, Bool.and_true, Bool.and_eq_true]
    exact ⟨lenOk_iff.2 ⟨by omega, by omega⟩, lenOk_iff.2 ⟨by omega, by omega⟩⟩
  · show (n1 : Int) * ((n2 : Int) * 1) ≤ 4096
    have := Nat.mul_le_mul h1 h2
    rw [Int.mul_one, ← Int.natCast_mul]
    omega
theorem out0_vec {f : Int} (h : evenF f) {l m : List Int} (h1 : l.length ≤ 60) (h2 : m.length ≤ 60) : outE0 f (vecF l) (vecF m) = 0 := by
  have hb : binB f = true := by rcases h with rfl | rfl | rfl | rfl | rfl | rfl <;> rfl
  have hk : kindsE f 1 1 = 0 := by rcases h with rfl | rfl | rfl | rfl | rfl | rfl <;> rfl
  unfold outE0
  rw [hb, if_neg (by decide), vecF_ok (by omega), vecF_ok (by omega), if_neg (by decide), if_neg (by show ¬ kindsE f 1 1 ≠ 0; rw [hk]; decide), if_neg (by show ¬ okShape [(l.length : Int), (m.length : Int)] = false; rw [two_shape h1 h2]; decide)]
theorem N_vec (l m : List Int) : mdN ((vecF l).sh ++ (vecF m).sh) = l.length * m.length := by
  show ((l.length : Int) * ((m.length : Int) * 1)).toNat = _
  rw [Int.mul_one, ← Int.natCast_mul, Int.toNat_natCast]
theorem outE_vec {f : Int} (h : evenF f) {l m : List Int} (h1 : l.length ≤ 60) (h2 : m.length ≤ 60) : outE f (vecF l) (vecF m) = apE (outGE f (vecF l) (vecF m)) (l.length * m.length) := by
  unfold outE
  rw [if_neg (by rw [out0_vec h h1 h2]; decide), N_vec]
theorem apE_val {g : Nat → Int} {n : Nat} (h : ∀ i, i < n → g i = 0 ∨ g i = 7) : apE g n = 0 ∨ apE g n = 7 := by
  by_cases h0 : apE g n = 0
  · exact .inl h0
  · obtain ⟨i, hi, h1, _⟩ := apE_from h0
    rcases h i hi with h2 | h2
    · exact absurd (h1.symm.trans h2) h0
    · exact .inr (h1.symm.trans h2)
theorem outE_seven {f : Int} (h : evenF f) {l m : List Int} (h1 : l.length ≤ 60) (h2 : m.length ≤ 60) : outE f (vecF l) (vecF m) = 0 ∨ outE f (vecF l) (vecF m) = 7 := by
  rw [outE_vec h h1 h2]
  exact apE_val (fun i _ => by rw [gE_vec]; exact (two_even h _ _).2.2)
theorem outE_zero {f : Int} (h : evenF f) {l m : List Int} (h1 : l.length ≤ 60) (h2 : m.length ≤ 60) (h0 : outE f (vecF l) (vecF m) = 0) : outE f (vecF m) (vecF l) = 0 := by
  rw [outE_vec h h1 h2] at h0
  rw [outE_vec h h2 h1]
  exact apE_zero (fun i hi => by rw [(g_swap h l m hi).1]; exact apE_all h0 _ (sw_ok hi).1)
theorem outE_same {f : Int} (h : evenF f) {l m : List Int} (h1 : l.length ≤ 60) (h2 : m.length ≤ 60) : (outE f (vecF l) (vecF m) = 0 ∧ outE f (vecF m) (vecF l) = 0) ∨ (outE f (vecF l) (vecF m) = 7 ∧ outE f (vecF m) (vecF l) = 7) := by
  rcases outE_seven h h1 h2 with a | a
  · exact .inl ⟨a, outE_zero h h1 h2 a⟩
  · rcases outE_seven h h2 h1 with b | b
    · have := outE_zero h h2 h1 b
      omega
    · exact .inr ⟨a, b⟩
def outM (f : Int) (l m : List Int) : AV := ⟨1, [(l.length : Int), (m.length : Int)], apL (outGV f (vecF l) (vecF m)) (l.length * m.length)⟩
theorem outA_vec {f : Int} {l m : List Int} (h0 : outE f (vecF l) (vecF m) = 0) : outA f (vecF l) (vecF m) = outM f l m := by
  unfold outA
  rw [if_pos h0, N_vec]
  rfl
theorem outM_ok {f : Int} {l m : List Int} (h1 : l.length ≤ 60) (h2 : m.length ≤ 60) : okA (outM f l m) = true := by
  refine okA_iff.2 ⟨two_shape h1 h2, ?_, rfl⟩
  show ((apL _ _).length : Int) = (l.length : Int) * ((m.length : Int) * 1)
  rw [apL_length, Int.mul_one, Int.natCast_mul]
theorem getD_in {l : List Int} (h : ∀ z ∈ l, InR z) (i : Nat) : InR (l.getD i 0) := by
  rw [List.getD_eq_getElem?_getD]
  cases e : l[i]? with
  | none => show InR 0; unfold InR; omega
  | some y => exact h y (List.mem_of_getElem? e)
theorem outM_fine {f : Int} {l m : List Int} (h1 : ∀ z ∈ l, InR z) (h2 : ∀ z ∈ m, InR z) : Fine (outM f l m) := fun z hz => by
  have hz2 : z ∈ apL (outGV f (vecF l) (vecF m)) (l.length * m.length) := hz
  unfold apL at hz2
  obtain ⟨i, _, rfl⟩ := List.mem_map.1 hz2
  show InR (outGV f (vecF l) (vecF m) i)
  rw [gV_vec]
  exact twoV_in (getD_in h1 _) (getD_in h2 _)
theorem tra_out {f : Int} (h : evenF f) {l m : List Int} (h1 : l.length ≤ 60) (h2 : m.length ≤ 60) : tu.traB (outM f l m) = outM f m l := by
  have ho := outM_ok (f := f) h1 h2
  obtain ⟨L, M, o⟩ := tu.ord_bring (tu.tosR_perm (outM f l m).sh.length) ho
  have ht : tu.tosR (outM f l m).sh.length = [1, 0] := rfl
  have hL : L = [l.length, m.length] := tu.iL_inj (o.hL.symm.trans (show (outM f l m).sh = iL [l.length, m.length] from rfl))
  have hsh : tu.shO (outM f l m).sh (tu.tosR (outM f l m).sh.length) = [(m.length : Int), (l.length : Int)] := rfl
  have hM : M = [m.length, l.length] := tu.iL_inj (o.hM.symm.trans (hsh.trans (show [(m.length : Int), (l.length : Int)] = iL [m.length, l.length] from rfl)))
  subst hL
  subst hM
  have hat := o.at_
  unfold tu.traB
  rw [hsh]
  rw [tu.bring_el (xs := apL (outGV f (vecF m) (vecF l)) (m.length * l.length)) (by
    show ((m.length : Int) * ((l.length : Int) * 1)).toNat = _
    rw [Int.mul_one, ← Int.natCast_mul, Int.toNat_natCast, apL_length]) (fun n hn => by
      rw [apL_length] at hn
      have hp : n < prodN [m.length, l.length] := by
        show n < m.length * (l.length * 1)
        rw [Nat.mul_one]
        exact hn
      obtain ⟨a1, a2⟩ := hat n hp
      rw [ht] at a1 a2 ⊢
      generalize tu.ordG (outM f l m).sh [1, 0] n = x at *
      have e2 : [x / (m.length * 1), (x % (m.length * 1)) / 1] = [(n % (l.length * 1)) / 1, n / (l.length * 1)] := a2
      injection e2 with q1 q2
      injection q2 with q2 _
      rw [Nat.mul_one, Nat.mul_one, Nat.div_one] at q1
      rw [Nat.mul_one, Nat.mul_one, Nat.div_one] at q2
      have hxs : x = swN l.length m.length n := by
        unfold swN
        have := Nat.div_add_mod x m.length
        rw [q1, q2] at this
        exact this.symm
      subst hxs
      have hlt := (sw_ok hn).1
      have e3 : (apL (outGV f (vecF m) (vecF l)) (m.length * l.length))[n]'(by rw [apL_length]; exact hn) = outGV f (vecF m) (vecF l) n := by
        have h3 := apL_at (g := outGV f (vecF m) (vecF l)) hn
        exact (List.getElem?_eq_some_iff.1 h3).2
      rw [e3, (g_swap h l m hn).2]
      show (apL (outGV f (vecF l) (vecF m)) (l.length * m.length)).getD _ 0 = _
      rw [List.getD_eq_getElem?_getD, apL_at hlt]
      rfl)]
  rfl
theorem six_even {k : Nat} (hk : k < 6) : ∃ f : Int, evenF f ∧ (#[Value.int .i64 1, .int .i64 3, .int .i64 6, .int .i64 7, .int .i64 9, .int .i64 10] : Array Value)[k]? = some (.int .i64 f) := by
  unfold evenF
  rcases k with _ | _ | _ | _ | _ | _ | k
  · exact ⟨1, by omega, rfl⟩
  · exact ⟨3, by omega, rfl⟩
  · exact ⟨6, by omega, rfl⟩
  · exact ⟨7, by omega, rfl⟩
  · exact ⟨9, by omega, rfl⟩
  · exact ⟨10, by omega, rfl⟩
  · omega
theorem out_lens {f : Int} {l m : List Int} {X : AV} (h : evenF f) (h1 : l.length ≤ 60) (h2 : m.length ≤ 60) (f1 : ∀ z ∈ l, InR z) (f2 : ∀ z ∈ m, InR z) (hX : outA f (vecF l) (vecF m) = X) : X.sh.length ≤ 9223372036854775807 ∧ X.el.length ≤ 9223372036854775807 ∧ Fine X := by
  subst hX
  rcases outE_seven h h1 h2 with h0 | h0
  · rw [outA_vec h0]
    have := okA_len (outM_ok (f := f) h1 h2)
    exact ⟨by omega, by omega, outM_fine f1 f2⟩
  · unfold outA
    rw [if_neg (by rw [h0]; decide)]
    exact ⟨show (0 : Nat) ≤ _ by omega, show (0 : Nat) ≤ _ by omega, fun z hz => by cases hz⟩
set_option maxRecDepth 100000 in
set_option maxHeartbeats 8000000 in
theorem walk (A B : Option Addr) (c d : Nat) (l m : List Int) (u : Nat) (hu : u < 256) (w : World) (hl : IArg w A c l) (hm : IArg w B d m) :
    Calls Try.prog 12 #[.slice A l.length c, .slice B m.length d, .int .u8 (u : Int)] w fun e w' => e = .returned (.bool true) ∧ Below w.heap.size w w' := by
  have HAL := Lib.hid (l16alive w)
  have hl1 := hl.reads
  have hl2 := hl.fine
  have hm1 := hm.reads
  have hm2 := hm.fine
  obtain ⟨n1, hn1⟩ : ∃ n1, l.length = n1 := ⟨_, rfl⟩
  obtain ⟨n2, hn2⟩ : ∃ n2, m.length = n2 := ⟨_, rfl⟩
  rw [hn1] at hl1
  rw [hn2] at hm1
  rw [hn1, hn2]
  by_cases h1 : 60 < n1
  · have hd : decide (60 < (n1 : Int)) = true := decide_eq_true (by omega)
    clear hl hm hl1 hl2 hm1 hm2 hn1 hn2
    go_enter Try.func12, Try.ntmps12
    go_wp2_with (go_at_call 45; refine HAL.out.mono ?_; rintro e w2 ⟨rfl, b2⟩)
    go_ret
    exact ⟨rfl, b2⟩
  have hd1 : decide (60 < (n1 : Int)) = false := decide_eq_false (by omega)
  by_cases h2 : 60 < n2
  · have hd : decide (60 < (n2 : Int)) = true := decide_eq_true (by omega)
    clear hl hm hl1 hl2 hm1 hm2 hn1 hn2
    go_enter Try.func12, Try.ntmps12
    go_wp2_with (go_at_call 45; refine HAL.out.mono ?_; rintro e w2 ⟨rfl, b2⟩)
    go_ret
    exact ⟨rfl, b2⟩
  have hd2 : decide (60 < (n2 : Int)) = false := decide_eq_false (by omega)
  obtain ⟨k, hk⟩ : ∃ k, u % 6 = k := ⟨_, rfl⟩
  have hk6 : k < 6 := by omega
  have etm : (u : Int).tmod 6 = (k : Int) := by rw [← hk]; exact (Int.ofNat_tmod u 6).symm
  have etm2 : (u : Int) % 6 = (k : Int) := by omega
  have hki : (k : Int) < 6 := by omega
  obtain ⟨f, hf, hcell⟩ := six_even hk6
  have HCF : Hid (∀ W : World, (W.alloc (.cells #[.int .i64 1, .int .i64 3, .int .i64 6, .int .i64 7, .int .i64 9, .int .i64 10] 3)).cell? ⟨W.heap.size, k, none⟩ = some (.int .i64 f)) := Lib.hid (fun W => (Blk.new W 3 _).cell k |>.trans hcell)
  have h60a : l.length ≤ 60 := by omega
  have h60b : m.length ≤ 60 := by omega
  have hvec : ∀ (S : Option Addr) (cc n : Nat) (g : List Int), g.length = n → n ≤ 60 → (∀ z ∈ g, InR z) → Reads w w.heap.size 1 S n (g.map iv) → ∀ W, Below w.heap.size w W → Calls Try.prog 27 #[.slice S n cc] W fun e w' => ∃ p : AP, e = .returned (.agg #[.int .i64 1, .slice p.A0 1 p.c0, .slice p.A1 n p.c1]) ∧ AEl w' (vecF g) p ∧ Below W.heap.size W w' := fun S cc n g e1 e2 e3 e4 W hb => by
    refine (vec_give g (by omega) e3 S n cc W e1 ((e4.below hb).more hb.size)).mono ?_
    rintro e w' ⟨p, rfl, h, _, b⟩
    refine ⟨p, ?_, h, b⟩
    unfold arC
    rw [show (vecF g).el.length = n from e1]
    rfl
  have HVL := Lib.hid (hvec A c n1 l hn1 (by omega) hl2 hl1)
  have HVM := Lib.hid (hvec B d n2 m hn2 (by omega) hm2 hm1)
  obtain ⟨XA, hXA⟩ : ∃ XA, outA f (vecF l) (vecF m) = XA := ⟨_, rfl⟩
  obtain ⟨XB, hXB⟩ : ∃ XB, outA f (vecF m) (vecF l) = XB := ⟨_, rfl⟩
  obtain ⟨EA, hEA⟩ : ∃ EA, outE f (vecF l) (vecF m) = EA := ⟨_, rfl⟩
  obtain ⟨EB, hEB⟩ : ∃ EB, outE f (vecF m) (vecF l) = EB := ⟨_, rfl⟩
  obtain ⟨a1, a2, a3⟩ := out_lens hf h60a h60b hl2 hm2 hXA
  obtain ⟨b1, b2, b3⟩ := out_lens hf h60b h60a hm2 hl2 hXB
  have hsame := outE_same hf h60a h60b
  rw [hEA, hEB] at hsame
  have HO1 : Hid (∀ (W : World) (p q : AP), AEl W (vecF l) p → AEl W (vecF m) q → Calls Try.prog 41 #[.int .i64 f, .agg #[.int .i64 1, .slice p.A0 1 p.c0, .slice p.A1 n1 p.c1], .agg #[.int .i64 1, .slice q.A0 1 q.c0, .slice q.A1 n2 q.c1]] W fun e w' => ∃ r : AP, e = .returned (.tuple #[.agg #[.int .i64 XA.kind, .slice r.A0 XA.sh.length r.c0, .slice r.A1 XA.el.length r.c1], .int .i64 EA]) ∧ AEl w' XA r ∧ Cap2 XA r ∧ Below W.heap.size W w') := Lib.hid (fun W p q h k => by
    have h1 := foouter_any f (vecF l) (vecF m) p q W h k
    rw [hXA, hEA] at h1
    unfold arC at h1
    rw [show (vecF l).el.length = n1 from hn1, show (vecF m).el.length = n2 from hn2] at h1
    exact h1.mono (fun _ _ g => g.t a1 a2 a3))
  have HO2 : Hid (∀ (W : World) (p q : AP), AEl W (vecF m) p → AEl W (vecF l) q → Calls Try.prog 41 #[.int .i64 f, .agg #[.int .i64 1, .slice p.A0 1 p.c0, .slice p.A1 n2 p.c1], .agg #[.int .i64 1, .slice q.A0 1 q.c0, .slice q.A1 n1 q.c1]] W fun e w' => ∃ r : AP, e = .returned (.tuple #[.agg #[.int .i64 XB.kind, .slice r.A0 XB.sh.length r.c0, .slice r.A1 XB.el.length r.c1], .int .i64 EB]) ∧ AEl w' XB r ∧ Cap2 XB r ∧ Below W.heap.size W w') := Lib.hid (fun W p q h k => by
    have h1 := foouter_any f (vecF m) (vecF l) p q W h k
    rw [hXB, hEB] at h1
    unfold arC at h1
    rw [show (vecF m).el.length = n2 from hn2, show (vecF l).el.length = n1 from hn1] at h1
    exact h1.mono (fun _ _ g => g.t b1 b2 b3))
  have HTR : Hid (EA = 0 → EB = 0 → ∀ (W : World) (r : AP), AEl W XA r → Calls Try.prog 53 #[.agg #[.int .i64 XA.kind, .slice r.A0 XA.sh.length r.c0, .slice r.A1 XA.el.length r.c1]] W fun e w' => ∃ t : AP, e = .returned (.tuple #[.agg #[.int .i64 XB.kind, .slice t.A0 XB.sh.length t.c0, .slice t.A1 XB.el.length t.c1], .int .i64 0]) ∧ AEl w' XB t ∧ Below W.heap.size W w') := Lib.hid (fun z1 z2 W r h => by
    have hA : XA = outM f l m := hXA.symm.trans (outA_vec (hEA.trans z1))
    have hB : XB = outM f m l := hXB.symm.trans (outA_vec (hEB.trans z2))
    have h1 := tu.traB_give (outM_ok (f := f) h60a h60b) (outM_fine hl2 hm2) r W (hA ▸ h)
    rw [tra_out hf h60a h60b, ← hA, ← hB] at h1
    refine h1.mono ?_
    rintro e w' ⟨t, rfl, h2, _, b⟩
    exact ⟨t, rfl, h2, b⟩)
  have HIS : Hid (∀ (W : World) (p q : AP), AEl W XB p → AEl W XB q → Calls Try.prog 44 #[.agg #[.int .i64 XB.kind, .slice p.A0 XB.sh.length p.c0, .slice p.A1 XB.el.length p.c1], .int .i64 0, .agg #[.int .i64 XB.kind, .slice q.A0 XB.sh.length q.c0, .slice q.A1 XB.el.length q.c1]] W fun e w' => e = .returned (.bool true) ∧ Below W.heap.size W w') := Lib.hid (fun W p q h k => l16is_yes XB p q W h k)
  clear hl hm hl1 hl2 hm1 hm2 hn1 hn2 h1 h2 hk hf hcell h60a h60b hvec hXA hXB hEA hEB a1 a2 a3 b1 b2 b3
  go_enter Try.func12, Try.ntmps12
  go_upto_region 7 with (first
    | (go_at_call 41; (have l0 := E8.out; clear l0); (with_reducible refine (HO2.out _ _ _ (E7.out.below B78.out) E8.out).mono ?_); rintro e w9 ⟨rb, rfl, e9, c9, b9⟩; have E9 := Lib.hid e9; have BX9 : Hid (BoxF w9 _ XA ra) := Lib.hid (BX8.out.up b9); have B9 := Lib.hid (below_on B8.out b9); clear e9 c9 b9)
    | (go_at_call 27; (have l0 := E7.out; clear l0); (with_reducible refine (HVL.out _ B7.out).mono ?_); rintro e w8 ⟨p8, rfl, e8, b8⟩; have E8 := Lib.hid e8; have B78 := Lib.hid b8; have BX8 := Lib.hid (BX7.out.up b8); have B8 := Lib.hid (below_on B7.out b8); clear e8 b8)
    | (go_at_call 27; (have l0 := B6.out; clear l0); (with_reducible refine (HVM.out _ B6.out).mono ?_); rintro e w7 ⟨p7, rfl, e7, b7⟩; have E7 := Lib.hid e7; have BX7 := Lib.hid (BX6.out.up b7); have B7 := Lib.hid (below_on B6.out b7); clear e7 b7)
    | (go_at_call 41; (with_reducible refine (HO1.out _ _ _ (E3.out.below B34.out) E4.out).mono ?_); rintro e w5 ⟨ra, rfl, e5, c5, b5⟩; have BX6 : Hid (BoxF (w5.alloc (.cells #[.int .i64 XA.kind, .slice ra.A0 XA.sh.length ra.c0, .slice ra.A1 XA.el.length ra.c1] 25)) w5.heap.size XA ra) := Lib.hid (BoxF.new e5 c5); have B6 : Hid (Below w.heap.size w (w5.alloc (.cells #[.int .i64 XA.kind, .slice ra.A0 XA.sh.length ra.c0, .slice ra.A1 XA.el.length ra.c1] 25))) := Lib.hid (below_on (below_on B4.out b5) (alloc_below w5 _)); clear e5 c5 b5)
    | (go_at_call 27; (have l0 := E3.out; clear l0); (with_reducible refine (HVM.out _ B3.out).mono ?_); rintro e w4 ⟨p4, rfl, e4, b4⟩; have E4 := Lib.hid e4; have B34 := Lib.hid b4; have B4 := Lib.hid (below_on B3.out b4); clear e4 b4)
    | (go_at_call 27; (with_reducible refine (HVL.out _ BF.out).mono ?_); rintro e w3 ⟨p3, rfl, e3, b3⟩; have E3 := Lib.hid e3; have B3 := Lib.hid (below_on BF.out b3); clear e3 b3)
    | (go_at_call 45; refine HAL.out.mono ?_; rintro e w2 ⟨rfl, b2⟩; have y0 := HCF.out w2; have BF := Lib.hid (below_on b2 (alloc_below w2 (.cells #[.int .i64 1, .int .i64 3, .int .i64 6, .int .i64 7, .int .i64 9, .int .i64 10] 3))); clear b2))
  obtain ⟨w10, hw10⟩ : ∃ w10, w9.alloc (.cells #[.int .i64 XB.kind, .slice rb.A0 XB.sh.length rb.c0, .slice rb.A1 XB.el.length rb.c1] 25) = w10 := ⟨_, rfl⟩
  obtain ⟨ga, hga⟩ : ∃ ga, w5.heap.size = ga := ⟨_, rfl⟩
  obtain ⟨gb, hgb⟩ : ∃ gb, w9.heap.size = gb := ⟨_, rfl⟩
  have hal := alloc_below w9 (.cells #[.int .i64 XB.kind, .slice rb.A0 XB.sh.length rb.c0, .slice rb.A1 XB.el.length rb.c1] 25)
  have hbb := Blk.new w9 25 #[.int .i64 XB.kind, .slice rb.A0 XB.sh.length rb.c0, .slice rb.A1 XB.el.length rb.c1]
  have hba := BX9.out.up hal
  have heb := E9.out.below hal
  have HB10 := Lib.hid (below_on B9.out hal)
  rw [hw10] at hal hbb hba heb HB10
  rw [hga] at hba
  rw [hgb] at hbb
  rw [hw10, hga, hgb]
  have HEB := Lib.hid heb
  have HBB := Lib.hid hbb
  have HBA := Lib.hid hba
  obtain ⟨x0, x1, x2⟩ := hba.cells
  clear hal hbb hba heb hw10 hga hgb HVL HVM HO1 HO2 HCF
  rcases hsame with ⟨hA, hB⟩ | ⟨hA, hB⟩
  · have HTT := Lib.hid (HTR.out hA hB)
    subst hA
    subst hB
    go_wp2_with (first
      | (go_at_call 44; (with_reducible refine (HIS.out _ _ _ E12.out F12.out).mono ?_); rintro e w13 ⟨rfl, b13⟩; have B13 := Lib.hid (below_on B12.out b13); clear b13)
      | (go_at_call 53; (with_reducible refine (HTT.out _ _ HBA.out.e).mono ?_); rintro e w11 ⟨t, rfl, e11, b11⟩
         have al := alloc_below w11 (.cells #[.int .i64 XB.kind, .slice t.A0 XB.sh.length t.c0, .slice t.A1 XB.el.length t.c1] 25)
         have hbt := Blk.new w11 25 #[.int .i64 XB.kind, .slice t.A0 XB.sh.length t.c0, .slice t.A1 XB.el.length t.c1]
         have bb := below_on b11 al
         have hb2 := HBB.out.below bb HBB.out.lt
         have z0 := hbt.cell 0
         have z1 := hbt.cell 1
         have z2 := hbt.cell 2
         have y0 := hb2.cell 0
         have y1 := hb2.cell 1
         have y2 := hb2.cell 2
         have E12 : Hid (AEl (w11.alloc (.cells #[.int .i64 XB.kind, .slice t.A0 XB.sh.length t.c0, .slice t.A1 XB.el.length t.c1] 25)) XB t) := Lib.hid (e11.below al)
         have F12 : Hid (AEl (w11.alloc (.cells #[.int .i64 XB.kind, .slice t.A0 XB.sh.length t.c0, .slice t.A1 XB.el.length t.c1] 25)) XB rb) := Lib.hid (HEB.out.below bb)
         have B12 : Hid (Below w.heap.size w (w11.alloc (.cells #[.int .i64 XB.kind, .slice t.A0 XB.sh.length t.c0, .slice t.A1 XB.el.length t.c1] 25))) := Lib.hid (below_on HB10.out bb)
         clear al hbt bb hb2 e11 b11))
    go_ret
    exact ⟨rfl, B13.out⟩
  · subst hA
    subst hB
    go_wp2
    go_ret
    exact ⟨rfl, HB10.out⟩
end Go.Proofs.Ytkabdkblcgklmaa.foldTurned

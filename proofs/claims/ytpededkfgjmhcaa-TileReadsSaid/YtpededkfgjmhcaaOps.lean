/-
  A list of calls as the statements take it: how it lies in memory, and how much of it the statements go through ('great').
-/
import Derived.Test.YtpededkfgjmhcaaRText
namespace Go.Proofs.Ytpededkfgjmhcaa
open Go.RowKit

/-- A call: its kind, its size, its number, its text. -/
structure Cal where
  kind : Int
  size : Int
  n : Nat
  s : ByteArray

/-- Its fields are of their types. -/
structure Cal.Fine (o : Cal) : Prop where
  k1 : -9223372036854775808 ≤ o.kind
  k2 : o.kind ≤ 9223372036854775807
  s1 : -9223372036854775808 ≤ o.size
  s2 : o.size ≤ 9223372036854775807
  n1 : o.n < 18446744073709551616
  t1 : o.s.size ≤ 140737488355328

/-- The slice of length n at A holds the calls. -/
def Cals (W : World) (B : Nat) (A : Option Addr) (n : Nat) (l : List Cal) : Prop :=
  l.length = n ∧ (∀ o ∈ l, o.Fine) ∧ (0 < n → ∃ ad, A = some ad ∧ ad.block < B ∧ ∀ i o, l[i]? = some o →
    W.cell? (ad.add (i * 4)) = some (.int .i64 o.kind) ∧ W.cell? (ad.add (i * 4 + 1)) = some (.int .i64 o.size) ∧
    W.cell? (ad.add (i * 4 + 2)) = some (.int .u64 o.n) ∧ W.cell? (ad.add (i * 4 + 3)) = some (.string o.s))

theorem Cals.keepS {w w' : World} {S : Nat → Prop} {B n : Nat} {A : Option Addr} {l : List Cal} (h : Cals w B A n l) (hk : Keep S w w') (hB : B ≤ w.heap.size) (hn : ∀ ad, A = some ad → ¬ S ad.block) : Cals w' B A n l :=
  ⟨h.1, h.2.1, fun h0 => by
    obtain ⟨ad, e, hb, hc⟩ := h.2.2 h0
    have same : ∀ j, w'.cell? (ad.add j) = w.cell? (ad.add j) := fun j => World.cell?_of_block (by rw [block_of_add]; exact hk.block ad.block (by omega) (hn ad e))
    exact ⟨ad, e, hb, fun i o ho => by
      obtain ⟨c0, c1, c2, c3⟩ := hc i o ho
      exact ⟨(same _).trans c0, (same _).trans c1, (same _).trans c2, (same _).trans c3⟩⟩⟩
theorem Cals.below {w w' : World} {B n : Nat} {A : Option Addr} {l : List Cal} (h : Cals w B A n l) (hk : Below B w w') : Cals w' B A n l :=
  ⟨h.1, h.2.1, fun h0 => by
    obtain ⟨ad, e, hb, hc⟩ := h.2.2 h0
    have same : ∀ j, w'.cell? (ad.add j) = w.cell? (ad.add j) := fun j => hk.cell (by rw [block_of_add]; exact hb)
    exact ⟨ad, e, hb, fun i o ho => by
      obtain ⟨c0, c1, c2, c3⟩ := hc i o ho
      exact ⟨(same _).trans c0, (same _).trans c1, (same _).trans c2, (same _).trans c3⟩⟩⟩

theorem Cals.at_ {w : World} {B n k : Nat} {A : Option Addr} {l : List Cal} (h : Cals w B A n l) (hk : k < n) (hkl : k < l.length) : ∃ ad, A = some ad ∧ ad.block < B ∧
    w.cell? (ad.add (k * 4)) = some (.int .i64 l[k].kind) ∧ w.cell? ⟨(ad.add (k * 4)).block, (ad.add (k * 4)).off + 1, none⟩ = some (.int .i64 l[k].size) ∧
    w.cell? ⟨(ad.add (k * 4)).block, (ad.add (k * 4)).off + 2, none⟩ = some (.int .u64 l[k].n) ∧ w.cell? ⟨(ad.add (k * 4)).block, (ad.add (k * 4)).off + 3, none⟩ = some (.string l[k].s) := by
  obtain ⟨ad, e, hb, hc⟩ := h.2.2 (by omega)
  obtain ⟨c0, c1, c2, c3⟩ := hc k l[k] (List.getElem?_eq_getElem hkl)
  rw [← add_of_add] at c1 c2 c3
  exact ⟨ad, e, hb, c0, c1, c2, c3⟩

/-- How many bytes the texts have. -/
def size (l : List Cal) : Nat := l.foldl (fun t o => t + o.s.size) 0
theorem size_snoc (l : List Cal) (o : Cal) : size (l ++ [o]) = size l + o.s.size := by simp [size]
theorem size_le (l : List Cal) (h : ∀ o ∈ l, o.Fine) : size l ≤ l.length * 140737488355328 := by
  have : ∀ (t : Nat) (l : List Cal), (∀ o ∈ l, o.Fine) → l.foldl (fun t o => t + o.s.size) t ≤ t + l.length * 140737488355328 := by
    intro t l h
    induction l generalizing t with
    | nil => simp
    | cons o l ih =>
      have h1 := ih (t + o.s.size) (fun x hx => h x (List.mem_cons_of_mem _ hx))
      have h2 := (h o (List.mem_cons_self)).t1
      simp only [List.foldl_cons, List.length_cons]
      omega
  simpa [size] using this 0 l h
theorem size_take_le (l : List Cal) (k : Nat) : size (l.take k) ≤ size l := by
  have : ∀ (t : Nat) (l : List Cal) (k : Nat), (l.take k).foldl (fun t o => t + o.s.size) t ≤ l.foldl (fun t o => t + o.s.size) t := by
    intro t l
    induction l generalizing t with
    | nil => simp
    | cons o l ih =>
      intro k
      cases k with
      | zero =>
        have mono : ∀ (t : Nat) (l : List Cal), t ≤ l.foldl (fun t o => t + o.s.size) t := by
          intro t l
          induction l generalizing t with
          | nil => simp
          | cons o l ih2 => exact Nat.le_trans (Nat.le_add_right _ _) (ih2 (t + o.s.size))
        exact mono t (o :: l)
      | succ k => exact ih (t + o.s.size) k
  exact this 0 l k

/-- Are they more than the statements go through? -/
def great (l : List Cal) : Bool := decide (100 < l.length) || decide (100000 < size l)

end Go.Proofs.Ytpededkfgjmhcaa

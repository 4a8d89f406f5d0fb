/-
  Calls of a disk as layer 3's statements take them: how they lie in memory, and how much of it the statements go through ('great').
-/
import Derived.Test.YtdjneiboeehclaaInts
namespace Go.Proofs.Ytdjneiboeehclaa
open Go.RowKit

/-- A crash: at which write, what is kept, which sector is torn, and where. -/
structure DCrash where
  write : Int
  keep : List Int
  torn : Int
  at_ : Int
/-- A call: its kind, its sector, its bytes, its crash. -/
structure DOp where
  kind : Int
  at_ : Int
  b : List UInt8
  c : DCrash

def i64ok (n : Int) : Prop := -9223372036854775808 ≤ n ∧ n ≤ 9223372036854775807

structure DCrash.Fine (c : DCrash) : Prop where
  w : i64ok c.write
  t : i64ok c.torn
  a : i64ok c.at_
  k : ∀ x ∈ c.keep, i64ok x
structure DOp.Fine (o : DOp) : Prop where
  k : i64ok o.kind
  a : i64ok o.at_
  c : o.c.Fine

/-- A slice that reads as l, its capacity c. -/
structure Sl (W : World) (B : Nat) (A : Option Addr) (c : Nat) (xs : List Value) : Prop where
  reads : Reads W B 1 A xs.length xs
  cap : xs.length ≤ c
  big : c ≤ 9223372036854775807

theorem Sl.below {W W' : World} {B c : Nat} {A : Option Addr} {xs : List Value} (h : Sl W B A c xs) (hb : Below B W W') : Sl W' B A c xs := ⟨h.reads.below hb, h.cap, h.big⟩
theorem Sl.more {W : World} {B B' c : Nat} {A : Option Addr} {xs : List Value} (h : Sl W B A c xs) (hB : B ≤ B') : Sl W B' A c xs := ⟨h.reads.more hB, h.cap, h.big⟩

/-- The seven cells of a call at ad. -/
structure DCells (W : World) (B : Nat) (ad : Addr) (o : DOp) (BA : Option Addr) (Bc : Nat) (KA : Option Addr) (Kc : Nat) : Prop where
  kind : W.cell? ad = some (.int .i64 o.kind)
  at_ : W.cell? ⟨ad.block, ad.off + 1, none⟩ = some (.int .i64 o.at_)
  b : W.cell? ⟨ad.block, ad.off + 2, none⟩ = some (.slice BA o.b.length Bc)
  write : W.cell? ⟨ad.block, ad.off + 3, none⟩ = some (.int .i64 o.c.write)
  keep : W.cell? ⟨ad.block, ad.off + 4, none⟩ = some (.slice KA o.c.keep.length Kc)
  torn : W.cell? ⟨ad.block, ad.off + 5, none⟩ = some (.int .i64 o.c.torn)
  cat : W.cell? ⟨ad.block, ad.off + 6, none⟩ = some (.int .i64 o.c.at_)
  bs : Sl W B BA Bc (o.b.map bv)
  ks : Sl W B KA Kc (o.c.keep.map iv)

/-- The slice of length n at A holds the calls. -/
def DOps (W : World) (B : Nat) (A : Option Addr) (n : Nat) (l : List DOp) : Prop :=
  l.length = n ∧ (∀ o ∈ l, o.Fine) ∧ (0 < n → ∃ ad, A = some ad ∧ ad.block < B ∧ ∀ i o, l[i]? = some o → ∃ BA Bc KA Kc, DCells W B (ad.add (i * 7)) o BA Bc KA Kc)

theorem DOps.below {w w' : World} {B n : Nat} {A : Option Addr} {l : List DOp} (h : DOps w B A n l) (hk : Below B w w') : DOps w' B A n l :=
  ⟨h.1, h.2.1, fun h0 => by
    obtain ⟨ad, e, hb, hc⟩ := h.2.2 h0
    refine ⟨ad, e, hb, fun i o ho => ?_⟩
    obtain ⟨BA, Bc, KA, Kc, d⟩ := hc i o ho
    have same : ∀ j, w'.cell? ⟨(ad.add (i * 7)).block, (ad.add (i * 7)).off + j, none⟩ = w.cell? ⟨(ad.add (i * 7)).block, (ad.add (i * 7)).off + j, none⟩ := fun j => hk.cell (by dsimp only; rw [block_of_add]; exact hb)
    have same0 : w'.cell? (ad.add (i * 7)) = w.cell? (ad.add (i * 7)) := hk.cell (by rw [block_of_add]; exact hb)
    exact ⟨BA, Bc, KA, Kc, same0.trans d.kind, (same 1).trans d.at_, (same 2).trans d.b, (same 3).trans d.write, (same 4).trans d.keep, (same 5).trans d.torn, (same 6).trans d.cat, d.bs.below hk, d.ks.below hk⟩⟩

theorem DOps.at_ {w : World} {B n k : Nat} {A : Option Addr} {l : List DOp} (h : DOps w B A n l) (hk : k < n) : ∃ ad BA Bc KA Kc, A = some ad ∧ ad.block < B ∧ DCells w B (ad.add (k * 7)) (l[k]'(by rw [h.1]; exact hk)) BA Bc KA Kc := by
  obtain ⟨ad, e, hb, hc⟩ := h.2.2 (by omega)
  obtain ⟨BA, Bc, KA, Kc, d⟩ := hc k (l[k]'(by rw [h.1]; exact hk)) (List.getElem?_eq_getElem (by rw [h.1]; exact hk))
  exact ⟨ad, BA, Bc, KA, Kc, e, hb, d⟩

/-- Is a call greater than the statements go through? -/
def DOp.great (o : DOp) : Bool := decide (500 < o.b.length) || decide (100 < o.c.keep.length)
def dgreat (l : List DOp) : Bool := decide (200 < l.length) || l.any DOp.great

end Go.Proofs.Ytdjneiboeehclaa

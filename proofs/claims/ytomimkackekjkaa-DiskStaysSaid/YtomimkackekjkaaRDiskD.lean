/-
  The given disk of layer 3: it goes down by a crash.
-/
import Derived.Test.YtomimkackekjkaaRDiskF
import Derived.Test.YtomimkackekjkaaDOps
namespace Go.Proofs.Ytomimkackekjkaa
open Go.RowKit

/-- How many bytes of sector k's last write stay. -/
def stayN (c : DCrash) (k : Nat) : Int := if (k : Int) ∈ c.keep then 128 else if c.torn = (k : Int) then c.at_ else 0
/-- The first bytes of one, the others of another. -/
def cutAt (n : Int) (x y : List UInt8) : List UInt8 := x.take n.toNat ++ y.drop n.toNat
theorem cutAt_length {n : Int} {x y : List UInt8} (hx : x.length = 128) (hy : y.length = 128) : (cutAt n x y).length = 128 := by
  unfold cutAt
  rw [List.length_append, List.length_take, List.length_drop]
  omega

theorem cutAt_at {n : Int} {x y : List UInt8} {j : Nat} (hx : x.length = 128) (hj : j < 128) : (cutAt n x y)[j]? = if (j : Int) < n then x[j]? else y[j]? := by
  unfold cutAt
  by_cases h : (j : Int) < n
  · rw [if_pos h, List.getElem?_append_left (by rw [List.length_take]; omega), List.getElem?_take_of_lt (by omega)]
  · rw [if_neg h, List.getElem?_append_right (by rw [List.length_take]; omega), List.length_take, List.getElem?_drop]
    congr 1
    omega

/-- The sectors ahead of k behind the crash. -/
def fallTo (s : RSt) (c : DCrash) : Nat → RSt
  | 0 => s
  | k + 1 => if 0 < ((fallTo s c k).cache.getD k []).length then { fallTo s c k with stays := (fallTo s c k).stays.set k (cutAt (stayN c k) ((fallTo s c k).cache.getD k []) ((fallTo s c k).stays.getD k [])), cache := (fallTo s c k).cache.set k [] } else fallTo s c k
theorem fallTo_length (s : RSt) (c : DCrash) : ∀ k, (fallTo s c k).stays.length = s.stays.length
  | 0 => rfl
  | k + 1 => by
    unfold fallTo
    split
    · show (List.set _ _ _).length = _
      rw [List.length_set]
      exact fallTo_length s c k
    · exact fallTo_length s c k

def fallSt (s : RSt) (c : DCrash) : RSt := { fallTo s c s.stays.length with write := 0, keep := [], torn := 0, at_ := 0, down := true }

/-- What lies in the disk's own block is laid anew. -/
theorem RD.self {w w' : World} {b gS gC cS cC : Nat} {kv kv' : Value} {vs ws : List Value} {s s' : RSt} (h : RD w b gS gC cS cC kv vs ws s) (hk : Keep (fun k => k = b) w w') (hs : s'.stays = s.stays) (hc : s'.cache = s.cache)
    (hb : Blk w' b 42 #[.slice (some ⟨gS, 0, none⟩) s.stays.length cS, .slice (some ⟨gC, 0, none⟩) s.stays.length cC, .int .i64 s'.write, kv', .int .i64 s'.torn, .int .i64 s'.at_, .int .i64 s'.many, .bool s'.down])
    (hkv : Head w' 3 (s'.keep.map iv) kv') : RD w' b gS gC cS cC kv' vs ws s' := by
  have hf := h.foot b (.inl rfl)
  have h8 : ∀ i, i = b → ¬ Typ w i 5 := fun i e => by subst e; exact hf.1
  have hbs : b ≠ gS := fun e => absurd (h.blk.typ.ne (e ▸ own_typ h.sOwn)) (by decide)
  have hbc : b ≠ gC := fun e => absurd (h.blk.typ.ne (e ▸ own_typ h.cOwn)) (by decide)
  refine ⟨⟨by rw [hs, hc]; exact h.ok.same, by rw [hs]; exact h.ok.few, by rw [hs]; exact h.ok.stay, by rw [hc]; exact h.ok.wait⟩, by rw [hs]; exact hb, ?_, ?_, h.ne, by rw [hs]; exact h.sHead.keep hk h8, by rw [hc]; exact h.cHead.keep hk h8, hkv⟩
  · rw [hs]
    exact hk.own h.sOwn (fun i e => by injection e with e; subst e; exact fun e => hbs e.symm)
  · rw [hs]
    exact hk.own h.cOwn (fun i e => by injection e with e; subst e; exact fun e => hbc e.symm)

def armErr3 (c : DCrash) : Int := if c.write < 1 then 2 else 0
def armSt3 (s : RSt) (c : DCrash) : RSt := if c.write < 1 then s else { s with write := c.write, keep := c.keep, torn := c.torn, at_ := c.at_ }

end Go.Proofs.Ytomimkackekjkaa

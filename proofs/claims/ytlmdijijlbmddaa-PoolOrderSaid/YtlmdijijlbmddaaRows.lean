/-
  No cell of these rows narrows 'for every input' (looked for: loops, veiled, ifaces, maps, wideKeys, modest, calm, conditions, laid).
  DERIVED. THE GIVEN ROWS OF THIS SEAT. 9 by the template 'for every input the law returns true; each argument reads behind the call as it read before'; 0 by the template 'total and deterministic' (their statements: YtlmdijijlbmddaaTotals.lean).
  GIVEN WITH THE SEED: the statements are not yours to turn. If you find one false, say at which input.
  Laid BY PROGRAM, IN A SANDBOX (cutbox-rows.mjs): the forced cells as the released guide's own fill.sh prints them over the translation c7b1e1214c8d5687… (all of the seat's roots in one cut). By AI agents, Wed Nov 11 2026. No macro, syntax, notation, axiom, sorry.
-/
import Derived.Test.YtlmdijijlbmddaaChecked
import GoSem.Claim
import GoSem.ClaimJoined
import GoSem.ClaimMapViews
import Derived.JoinedTies
import Derived.KernelRfl
namespace Go.Proofs.Ytlmdijijlbmddaa
/- THE CELL 'sum', in the pinned program and in every row, IS THE sha256 OF THE DUMP (.gsa) THAT YtlmdijijlbmddaaProg.lean LOADS. Nothing in Lean hashes anything: it is a label: what it is worth is what the hold of that sum in a sandbox is worth. -/
noncomputable def Try.pinned : Pinned := { name := "ytlmdijijlbmddaa", sum := "c7b1e1214c8d568714e5c1127fd0f560c0a58c1c295a34be3ac48393c43113b1", checked := Try.checked }
namespace Rows
def none {H : Type} : Left H := { results := [], args := [] }

/-- 'quadratlaw10.PoolNames': WHATEVER THE INPUT: true; the input reads as it did. -/
def poolNamesSpec : ChangeSpec := { name := "poolNames", fn := fun _ => fun
  | [] => { results := [.lit (.bool true)], args := [] }
  | _ => none }
def poolNamesRow : OpenClaim := { program := "ytlmdijijlbmddaa", sum := "c7b1e1214c8d568714e5c1127fd0f560c0a58c1c295a34be3ac48393c43113b1", func := "quadrat/quadratlaw10.PoolNames", spec := "poolNames", unfollowed := true, recurses := true, apart := false }
def PoolNamesSaid : Prop := poolNamesRow.holds Try.pinned (OpenSpec.ofChange poolNamesSpec)

/-- ITS FALSE NEIGHBOUR: 'it returns false'. Refute it at one input. -/
def poolNamesWrong : ChangeSpec := { name := "poolNames", fn := fun _ => fun
  | [] => { results := [.lit (.bool false)], args := [] }
  | _ => none }
def PoolNamesWrongFalsely : Prop := poolNamesRow.holds Try.pinned (OpenSpec.ofChange poolNamesWrong)

/-- 'quadratlaw10.PoolClean': WHATEVER THE INPUT: true; the input reads as it did. -/
def poolCleanSpec : ChangeSpec := { name := "poolClean", fn := fun _ => fun
  | [d1, d2, d3, d4, d5] => { results := [.lit (.bool true)], args := [d1, d2, d3, d4, d5] }
  | _ => none }
def poolCleanRow : OpenClaim := { program := "ytlmdijijlbmddaa", sum := "c7b1e1214c8d568714e5c1127fd0f560c0a58c1c295a34be3ac48393c43113b1", func := "quadrat/quadratlaw10.PoolClean", spec := "poolClean", unfollowed := true, recurses := true, apart := false }
def PoolCleanSaid : Prop := poolCleanRow.holds Try.pinned (OpenSpec.ofChange poolCleanSpec)

/-- ITS FALSE NEIGHBOUR: 'it returns false'. Refute it at one input. -/
def poolCleanWrong : ChangeSpec := { name := "poolClean", fn := fun _ => fun
  | [d1, d2, d3, d4, d5] => { results := [.lit (.bool false)], args := [d1, d2, d3, d4, d5] }
  | _ => none }
def PoolCleanWrongFalsely : Prop := poolCleanRow.holds Try.pinned (OpenSpec.ofChange poolCleanWrong)

/-- 'quadratlaw10.PoolOrder': WHATEVER THE INPUT: true; the input reads as it did. -/
def poolOrderSpec : ChangeSpec := { name := "poolOrder", fn := fun _ => fun
  | [d1, d2] => { results := [.lit (.bool true)], args := [d1, d2] }
  | _ => none }
def poolOrderRow : OpenClaim := { program := "ytlmdijijlbmddaa", sum := "c7b1e1214c8d568714e5c1127fd0f560c0a58c1c295a34be3ac48393c43113b1", func := "quadrat/quadratlaw10.PoolOrder", spec := "poolOrder", unfollowed := true, recurses := true, apart := false }
def PoolOrderSaid : Prop := poolOrderRow.holds Try.pinned (OpenSpec.ofChange poolOrderSpec)

/-- ITS FALSE NEIGHBOUR: 'it returns false'. Refute it at one input. -/
def poolOrderWrong : ChangeSpec := { name := "poolOrder", fn := fun _ => fun
  | [d1, d2] => { results := [.lit (.bool false)], args := [d1, d2] }
  | _ => none }
def PoolOrderWrongFalsely : Prop := poolOrderRow.holds Try.pinned (OpenSpec.ofChange poolOrderWrong)

/-- 'quadratlaw13.MoldBack': WHATEVER THE INPUT: true; the input reads as it did. -/
def moldBackSpec : ChangeSpec := { name := "moldBack", fn := fun _ => fun
  | [d1, d2] => { results := [.lit (.bool true)], args := [d1, d2] }
  | _ => none }
def moldBackRow : OpenClaim := { program := "ytlmdijijlbmddaa", sum := "c7b1e1214c8d568714e5c1127fd0f560c0a58c1c295a34be3ac48393c43113b1", func := "quadrat/quadratlaw13.MoldBack", spec := "moldBack", unfollowed := true, recurses := true, apart := false }
def MoldBackSaid : Prop := moldBackRow.holds Try.pinned (OpenSpec.ofChange moldBackSpec)

/-- ITS FALSE NEIGHBOUR: 'it returns false'. Refute it at one input. -/
def moldBackWrong : ChangeSpec := { name := "moldBack", fn := fun _ => fun
  | [d1, d2] => { results := [.lit (.bool false)], args := [d1, d2] }
  | _ => none }
def MoldBackWrongFalsely : Prop := moldBackRow.holds Try.pinned (OpenSpec.ofChange moldBackWrong)

/-- 'quadratlaw13.MoldCounts': WHATEVER THE INPUT: true; the input reads as it did. -/
def moldCountsSpec : ChangeSpec := { name := "moldCounts", fn := fun _ => fun
  | [d1, d2, d3] => { results := [.lit (.bool true)], args := [d1, d2, d3] }
  | _ => none }
def moldCountsRow : OpenClaim := { program := "ytlmdijijlbmddaa", sum := "c7b1e1214c8d568714e5c1127fd0f560c0a58c1c295a34be3ac48393c43113b1", func := "quadrat/quadratlaw13.MoldCounts", spec := "moldCounts", unfollowed := true, recurses := true, apart := false }
def MoldCountsSaid : Prop := moldCountsRow.holds Try.pinned (OpenSpec.ofChange moldCountsSpec)

/-- ITS FALSE NEIGHBOUR: 'it returns false'. Refute it at one input. -/
def moldCountsWrong : ChangeSpec := { name := "moldCounts", fn := fun _ => fun
  | [d1, d2, d3] => { results := [.lit (.bool false)], args := [d1, d2, d3] }
  | _ => none }
def MoldCountsWrongFalsely : Prop := moldCountsRow.holds Try.pinned (OpenSpec.ofChange moldCountsWrong)

/-- 'quadratlaw13.MoldIota': WHATEVER THE INPUT: true; the input reads as it did. -/
def moldIotaSpec : ChangeSpec := { name := "moldIota", fn := fun _ => fun
  | [d1, d2] => { results := [.lit (.bool true)], args := [d1, d2] }
  | _ => none }
def moldIotaRow : OpenClaim := { program := "ytlmdijijlbmddaa", sum := "c7b1e1214c8d568714e5c1127fd0f560c0a58c1c295a34be3ac48393c43113b1", func := "quadrat/quadratlaw13.MoldIota", spec := "moldIota", unfollowed := true, recurses := true, apart := false }
def MoldIotaSaid : Prop := moldIotaRow.holds Try.pinned (OpenSpec.ofChange moldIotaSpec)

/-- ITS FALSE NEIGHBOUR: 'it returns false'. Refute it at one input. -/
def moldIotaWrong : ChangeSpec := { name := "moldIota", fn := fun _ => fun
  | [d1, d2] => { results := [.lit (.bool false)], args := [d1, d2] }
  | _ => none }
def MoldIotaWrongFalsely : Prop := moldIotaRow.holds Try.pinned (OpenSpec.ofChange moldIotaWrong)

/-- 'quadratlaw14.TurnTwice': WHATEVER THE INPUT: true; the input reads as it did. -/
def turnTwiceSpec : ChangeSpec := { name := "turnTwice", fn := fun _ => fun
  | [d1, d2, d3] => { results := [.lit (.bool true)], args := [d1, d2, d3] }
  | _ => none }
def turnTwiceRow : OpenClaim := { program := "ytlmdijijlbmddaa", sum := "c7b1e1214c8d568714e5c1127fd0f560c0a58c1c295a34be3ac48393c43113b1", func := "quadrat/quadratlaw14.TurnTwice", spec := "turnTwice", unfollowed := true, recurses := true, apart := false }
def TurnTwiceSaid : Prop := turnTwiceRow.holds Try.pinned (OpenSpec.ofChange turnTwiceSpec)

/-- ITS FALSE NEIGHBOUR: 'it returns false'. Refute it at one input. -/
def turnTwiceWrong : ChangeSpec := { name := "turnTwice", fn := fun _ => fun
  | [d1, d2, d3] => { results := [.lit (.bool false)], args := [d1, d2, d3] }
  | _ => none }
def TurnTwiceWrongFalsely : Prop := turnTwiceRow.holds Try.pinned (OpenSpec.ofChange turnTwiceWrong)

/-- 'quadratlaw14.TurnAxes': WHATEVER THE INPUT: true; the input reads as it did. -/
def turnAxesSpec : ChangeSpec := { name := "turnAxes", fn := fun _ => fun
  | [d1, d2, d3] => { results := [.lit (.bool true)], args := [d1, d2, d3] }
  | _ => none }
def turnAxesRow : OpenClaim := { program := "ytlmdijijlbmddaa", sum := "c7b1e1214c8d568714e5c1127fd0f560c0a58c1c295a34be3ac48393c43113b1", func := "quadrat/quadratlaw14.TurnAxes", spec := "turnAxes", unfollowed := true, recurses := true, apart := false }
def TurnAxesSaid : Prop := turnAxesRow.holds Try.pinned (OpenSpec.ofChange turnAxesSpec)

/-- ITS FALSE NEIGHBOUR: 'it returns false'. Refute it at one input. -/
def turnAxesWrong : ChangeSpec := { name := "turnAxes", fn := fun _ => fun
  | [d1, d2, d3] => { results := [.lit (.bool false)], args := [d1, d2, d3] }
  | _ => none }
def TurnAxesWrongFalsely : Prop := turnAxesRow.holds Try.pinned (OpenSpec.ofChange turnAxesWrong)

/-- 'quadratlaw14.TurnCats': WHATEVER THE INPUT: true; the input reads as it did. -/
def turnCatsSpec : ChangeSpec := { name := "turnCats", fn := fun _ => fun
  | [d1, d2] => { results := [.lit (.bool true)], args := [d1, d2] }
  | _ => none }
def turnCatsRow : OpenClaim := { program := "ytlmdijijlbmddaa", sum := "c7b1e1214c8d568714e5c1127fd0f560c0a58c1c295a34be3ac48393c43113b1", func := "quadrat/quadratlaw14.TurnCats", spec := "turnCats", unfollowed := true, recurses := true, apart := false }
def TurnCatsSaid : Prop := turnCatsRow.holds Try.pinned (OpenSpec.ofChange turnCatsSpec)

/-- ITS FALSE NEIGHBOUR: 'it returns false'. Refute it at one input. -/
def turnCatsWrong : ChangeSpec := { name := "turnCats", fn := fun _ => fun
  | [d1, d2] => { results := [.lit (.bool false)], args := [d1, d2] }
  | _ => none }
def TurnCatsWrongFalsely : Prop := turnCatsRow.holds Try.pinned (OpenSpec.ofChange turnCatsWrong)

/- THE SECOND FORM. 'bulk': how many values and letters a reading holds, each counted each time it is reached (what is shared counts as often as it is met; a slice's spare places count too). A statement '..UptoSaid' is the law's where the arguments, and the package variables that the reading takes, are together of bulk at most 1048576: NARROWER than '..Said'. Prove '..Said' where nothing that the law and all that it calls make is longer than what came in: it says more and counts as full. Else prove '..UptoSaid'. A law counts once. -/
mutual
def uptoBulk {H : Type} : DataW H → Nat
  | .lit (.string bytes) => bytes.length + 1
  | .lit _ => 1
  | .nil => 1
  | .ptr d => uptoBulk d + 1
  | .slice elems spare => uptoBulkAll elems + uptoBulkAll spare + 1
  | .agg parts => uptoBulkAll parts + 1
  | .iface _ d => uptoBulk d + 1
  | .map entries => uptoBulkEntries entries + 1
  | .held _ => 1
def uptoBulkAll {H : Type} : List (DataW H) → Nat
  | [] => 0
  | d :: r => uptoBulk d + uptoBulkAll r
def uptoBulkEntries {H : Type} : List (Lit × DataW H) → Nat
  | [] => 0
  | x :: r => uptoBulkEntry x + uptoBulkEntries r
def uptoBulkEntry {H : Type} : Lit × DataW H → Nat
  | (.string bytes, d) => bytes.length + uptoBulk d + 1
  | (_, d) => uptoBulk d + 1
 end
def uptoSmall : (H : Type) → List (DataW H) → Bool := fun _ ds => decide (uptoBulkAll ds ≤ 1048576)
def OpenSpec.upto (s : _root_.Go.ChangeSpec) : _root_.Go.OpenSpec := { _root_.Go.OpenSpec.ofChange s with cond := some uptoSmall }

/-- 'quadratlaw10.PoolNames', WHERE WHAT IT READS IS OF BULK AT MOST 1048576: true; the input reads as it did. -/
def poolNamesUptoRow : OpenClaim := { program := "ytlmdijijlbmddaa", sum := "c7b1e1214c8d568714e5c1127fd0f560c0a58c1c295a34be3ac48393c43113b1", func := "quadrat/quadratlaw10.PoolNames", spec := "poolNames", unfollowed := true, recurses := true, apart := false, narrowed := true }
def PoolNamesUptoSaid : Prop := poolNamesUptoRow.holds Try.pinned (OpenSpec.upto poolNamesSpec)

/-- 'quadratlaw10.PoolClean', WHERE WHAT IT READS IS OF BULK AT MOST 1048576: true; the input reads as it did. -/
def poolCleanUptoRow : OpenClaim := { program := "ytlmdijijlbmddaa", sum := "c7b1e1214c8d568714e5c1127fd0f560c0a58c1c295a34be3ac48393c43113b1", func := "quadrat/quadratlaw10.PoolClean", spec := "poolClean", unfollowed := true, recurses := true, apart := false, narrowed := true }
def PoolCleanUptoSaid : Prop := poolCleanUptoRow.holds Try.pinned (OpenSpec.upto poolCleanSpec)

/-- 'quadratlaw10.PoolOrder', WHERE WHAT IT READS IS OF BULK AT MOST 1048576: true; the input reads as it did. -/
def poolOrderUptoRow : OpenClaim := { program := "ytlmdijijlbmddaa", sum := "c7b1e1214c8d568714e5c1127fd0f560c0a58c1c295a34be3ac48393c43113b1", func := "quadrat/quadratlaw10.PoolOrder", spec := "poolOrder", unfollowed := true, recurses := true, apart := false, narrowed := true }
def PoolOrderUptoSaid : Prop := poolOrderUptoRow.holds Try.pinned (OpenSpec.upto poolOrderSpec)

/-- 'quadratlaw13.MoldBack', WHERE WHAT IT READS IS OF BULK AT MOST 1048576: true; the input reads as it did. -/
def moldBackUptoRow : OpenClaim := { program := "ytlmdijijlbmddaa", sum := "c7b1e1214c8d568714e5c1127fd0f560c0a58c1c295a34be3ac48393c43113b1", func := "quadrat/quadratlaw13.MoldBack", spec := "moldBack", unfollowed := true, recurses := true, apart := false, narrowed := true }
def MoldBackUptoSaid : Prop := moldBackUptoRow.holds Try.pinned (OpenSpec.upto moldBackSpec)

/-- 'quadratlaw13.MoldCounts', WHERE WHAT IT READS IS OF BULK AT MOST 1048576: true; the input reads as it did. -/
def moldCountsUptoRow : OpenClaim := { program := "ytlmdijijlbmddaa", sum := "c7b1e1214c8d568714e5c1127fd0f560c0a58c1c295a34be3ac48393c43113b1", func := "quadrat/quadratlaw13.MoldCounts", spec := "moldCounts", unfollowed := true, recurses := true, apart := false, narrowed := true }
def MoldCountsUptoSaid : Prop := moldCountsUptoRow.holds Try.pinned (OpenSpec.upto moldCountsSpec)

/-- 'quadratlaw13.MoldIota', WHERE WHAT IT READS IS OF BULK AT MOST 1048576: true; the input reads as it did. -/
def moldIotaUptoRow : OpenClaim := { program := "ytlmdijijlbmddaa", sum := "c7b1e1214c8d568714e5c1127fd0f560c0a58c1c295a34be3ac48393c43113b1", func := "quadrat/quadratlaw13.MoldIota", spec := "moldIota", unfollowed := true, recurses := true, apart := false, narrowed := true }
def MoldIotaUptoSaid : Prop := moldIotaUptoRow.holds Try.pinned (OpenSpec.upto moldIotaSpec)

/-- 'quadratlaw14.TurnTwice', WHERE WHAT IT READS IS OF BULK AT MOST 1048576: true; the input reads as it did. -/
def turnTwiceUptoRow : OpenClaim := { program := "ytlmdijijlbmddaa", sum := "c7b1e1214c8d568714e5c1127fd0f560c0a58c1c295a34be3ac48393c43113b1", func := "quadrat/quadratlaw14.TurnTwice", spec := "turnTwice", unfollowed := true, recurses := true, apart := false, narrowed := true }
def TurnTwiceUptoSaid : Prop := turnTwiceUptoRow.holds Try.pinned (OpenSpec.upto turnTwiceSpec)

/-- 'quadratlaw14.TurnAxes', WHERE WHAT IT READS IS OF BULK AT MOST 1048576: true; the input reads as it did. -/
def turnAxesUptoRow : OpenClaim := { program := "ytlmdijijlbmddaa", sum := "c7b1e1214c8d568714e5c1127fd0f560c0a58c1c295a34be3ac48393c43113b1", func := "quadrat/quadratlaw14.TurnAxes", spec := "turnAxes", unfollowed := true, recurses := true, apart := false, narrowed := true }
def TurnAxesUptoSaid : Prop := turnAxesUptoRow.holds Try.pinned (OpenSpec.upto turnAxesSpec)

/-- 'quadratlaw14.TurnCats', WHERE WHAT IT READS IS OF BULK AT MOST 1048576: true; the input reads as it did. -/
def turnCatsUptoRow : OpenClaim := { program := "ytlmdijijlbmddaa", sum := "c7b1e1214c8d568714e5c1127fd0f560c0a58c1c295a34be3ac48393c43113b1", func := "quadrat/quadratlaw14.TurnCats", spec := "turnCats", unfollowed := true, recurses := true, apart := false, narrowed := true }
def TurnCatsUptoSaid : Prop := turnCatsUptoRow.holds Try.pinned (OpenSpec.upto turnCatsSpec)

end Rows
end Go.Proofs.Ytlmdijijlbmddaa

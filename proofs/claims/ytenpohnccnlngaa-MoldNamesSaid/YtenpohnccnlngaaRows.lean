/-
  No cell of these rows narrows 'for every input' (looked for: loops, veiled, ifaces, maps, wideKeys, modest, calm, conditions, laid).
  DERIVED. THE GIVEN ROWS OF THIS SEAT. 12 by the template 'for every input the law returns true; each argument reads behind the call as it read before'; 0 by the template 'total and deterministic' (their statements: YtenpohnccnlngaaTotals.lean).
  GIVEN WITH THE SEED: the statements are not yours to turn. If you find one false, say at which input.
  Laid BY PROGRAM, IN A SANDBOX (cutbox-rows.mjs): the forced cells as the released guide's own fill.sh prints them over the translation 4bf7b315c2d0bc5f… (all of the seat's roots in one cut). By AI agents, Wed Nov 11 2026. No macro, syntax, notation, axiom, sorry.
-/
import Derived.Test.YtenpohnccnlngaaChecked
import GoSem.Claim
import GoSem.ClaimJoined
import GoSem.ClaimMapViews
import Derived.JoinedTies
import Derived.KernelRfl
namespace Go.Proofs.Ytenpohnccnlngaa
/- THE CELL 'sum', in the pinned program and in every row, IS THE sha256 OF THE DUMP (.gsa) THAT YtenpohnccnlngaaProg.lean LOADS. Nothing in Lean hashes anything: it is a label: what it is worth is what the hold of that sum in a sandbox is worth. -/
noncomputable def Try.pinned : Pinned := { name := "ytenpohnccnlngaa", sum := "4bf7b315c2d0bc5f708a0c95b52dec1dcc0d01ea16019bc3dcc0724c0b1b326f", checked := Try.checked }
namespace Rows
def none {H : Type} : Left H := { results := [], args := [] }

/-- 'quadratlaw13.MoldNames': WHATEVER THE INPUT: true; the input reads as it did. -/
def moldNamesSpec : ChangeSpec := { name := "moldNames", fn := fun _ => fun
  | [] => { results := [.lit (.bool true)], args := [] }
  | _ => none }
def moldNamesRow : OpenClaim := { program := "ytenpohnccnlngaa", sum := "4bf7b315c2d0bc5f708a0c95b52dec1dcc0d01ea16019bc3dcc0724c0b1b326f", func := "quadrat/quadratlaw13.MoldNames", spec := "moldNames", unfollowed := true, recurses := true, apart := false }
def MoldNamesSaid : Prop := moldNamesRow.holds Try.pinned (OpenSpec.ofChange moldNamesSpec)

/-- ITS FALSE NEIGHBOUR: 'it returns false'. Refute it at one input. -/
def moldNamesWrong : ChangeSpec := { name := "moldNames", fn := fun _ => fun
  | [] => { results := [.lit (.bool false)], args := [] }
  | _ => none }
def MoldNamesWrongFalsely : Prop := moldNamesRow.holds Try.pinned (OpenSpec.ofChange moldNamesWrong)

/-- 'quadratlaw13.MoldParts': WHATEVER THE INPUT: true; the input reads as it did. -/
def moldPartsSpec : ChangeSpec := { name := "moldParts", fn := fun _ => fun
  | [d1, d2, d3, d4] => { results := [.lit (.bool true)], args := [d1, d2, d3, d4] }
  | _ => none }
def moldPartsRow : OpenClaim := { program := "ytenpohnccnlngaa", sum := "4bf7b315c2d0bc5f708a0c95b52dec1dcc0d01ea16019bc3dcc0724c0b1b326f", func := "quadrat/quadratlaw13.MoldParts", spec := "moldParts", unfollowed := true, recurses := true, apart := false }
def MoldPartsSaid : Prop := moldPartsRow.holds Try.pinned (OpenSpec.ofChange moldPartsSpec)

/-- ITS FALSE NEIGHBOUR: 'it returns false'. Refute it at one input. -/
def moldPartsWrong : ChangeSpec := { name := "moldParts", fn := fun _ => fun
  | [d1, d2, d3, d4] => { results := [.lit (.bool false)], args := [d1, d2, d3, d4] }
  | _ => none }
def MoldPartsWrongFalsely : Prop := moldPartsRow.holds Try.pinned (OpenSpec.ofChange moldPartsWrong)

/-- 'quadratlaw13.MoldTells': WHATEVER THE INPUT: true; the input reads as it did. -/
def moldTellsSpec : ChangeSpec := { name := "moldTells", fn := fun _ => fun
  | [d1, d2] => { results := [.lit (.bool true)], args := [d1, d2] }
  | _ => none }
def moldTellsRow : OpenClaim := { program := "ytenpohnccnlngaa", sum := "4bf7b315c2d0bc5f708a0c95b52dec1dcc0d01ea16019bc3dcc0724c0b1b326f", func := "quadrat/quadratlaw13.MoldTells", spec := "moldTells", unfollowed := true, recurses := true, apart := false }
def MoldTellsSaid : Prop := moldTellsRow.holds Try.pinned (OpenSpec.ofChange moldTellsSpec)

/-- ITS FALSE NEIGHBOUR: 'it returns false'. Refute it at one input. -/
def moldTellsWrong : ChangeSpec := { name := "moldTells", fn := fun _ => fun
  | [d1, d2] => { results := [.lit (.bool false)], args := [d1, d2] }
  | _ => none }
def MoldTellsWrongFalsely : Prop := moldTellsRow.holds Try.pinned (OpenSpec.ofChange moldTellsWrong)

/-- 'quadratlaw14.TurnNames': WHATEVER THE INPUT: true; the input reads as it did. -/
def turnNamesSpec : ChangeSpec := { name := "turnNames", fn := fun _ => fun
  | [] => { results := [.lit (.bool true)], args := [] }
  | _ => none }
def turnNamesRow : OpenClaim := { program := "ytenpohnccnlngaa", sum := "4bf7b315c2d0bc5f708a0c95b52dec1dcc0d01ea16019bc3dcc0724c0b1b326f", func := "quadrat/quadratlaw14.TurnNames", spec := "turnNames", unfollowed := true, recurses := true, apart := false }
def TurnNamesSaid : Prop := turnNamesRow.holds Try.pinned (OpenSpec.ofChange turnNamesSpec)

/-- ITS FALSE NEIGHBOUR: 'it returns false'. Refute it at one input. -/
def turnNamesWrong : ChangeSpec := { name := "turnNames", fn := fun _ => fun
  | [] => { results := [.lit (.bool false)], args := [] }
  | _ => none }
def TurnNamesWrongFalsely : Prop := turnNamesRow.holds Try.pinned (OpenSpec.ofChange turnNamesWrong)

/-- 'quadratlaw14.TurnRows': WHATEVER THE INPUT: true; the input reads as it did. -/
def turnRowsSpec : ChangeSpec := { name := "turnRows", fn := fun _ => fun
  | [d1, d2] => { results := [.lit (.bool true)], args := [d1, d2] }
  | _ => none }
def turnRowsRow : OpenClaim := { program := "ytenpohnccnlngaa", sum := "4bf7b315c2d0bc5f708a0c95b52dec1dcc0d01ea16019bc3dcc0724c0b1b326f", func := "quadrat/quadratlaw14.TurnRows", spec := "turnRows", unfollowed := true, recurses := true, apart := false }
def TurnRowsSaid : Prop := turnRowsRow.holds Try.pinned (OpenSpec.ofChange turnRowsSpec)

/-- ITS FALSE NEIGHBOUR: 'it returns false'. Refute it at one input. -/
def turnRowsWrong : ChangeSpec := { name := "turnRows", fn := fun _ => fun
  | [d1, d2] => { results := [.lit (.bool false)], args := [d1, d2] }
  | _ => none }
def TurnRowsWrongFalsely : Prop := turnRowsRow.holds Try.pinned (OpenSpec.ofChange turnRowsWrong)

/-- 'quadratlaw14.TurnTells': WHATEVER THE INPUT: true; the input reads as it did. -/
def turnTellsSpec : ChangeSpec := { name := "turnTells", fn := fun _ => fun
  | [d1, d2] => { results := [.lit (.bool true)], args := [d1, d2] }
  | _ => none }
def turnTellsRow : OpenClaim := { program := "ytenpohnccnlngaa", sum := "4bf7b315c2d0bc5f708a0c95b52dec1dcc0d01ea16019bc3dcc0724c0b1b326f", func := "quadrat/quadratlaw14.TurnTells", spec := "turnTells", unfollowed := true, recurses := true, apart := false }
def TurnTellsSaid : Prop := turnTellsRow.holds Try.pinned (OpenSpec.ofChange turnTellsSpec)

/-- ITS FALSE NEIGHBOUR: 'it returns false'. Refute it at one input. -/
def turnTellsWrong : ChangeSpec := { name := "turnTells", fn := fun _ => fun
  | [d1, d2] => { results := [.lit (.bool false)], args := [d1, d2] }
  | _ => none }
def TurnTellsWrongFalsely : Prop := turnTellsRow.holds Try.pinned (OpenSpec.ofChange turnTellsWrong)

/-- 'quadratlaw15.PickNames': WHATEVER THE INPUT: true; the input reads as it did. -/
def pickNamesSpec : ChangeSpec := { name := "pickNames", fn := fun _ => fun
  | [] => { results := [.lit (.bool true)], args := [] }
  | _ => none }
def pickNamesRow : OpenClaim := { program := "ytenpohnccnlngaa", sum := "4bf7b315c2d0bc5f708a0c95b52dec1dcc0d01ea16019bc3dcc0724c0b1b326f", func := "quadrat/quadratlaw15.PickNames", spec := "pickNames", unfollowed := true, recurses := true, apart := false }
def PickNamesSaid : Prop := pickNamesRow.holds Try.pinned (OpenSpec.ofChange pickNamesSpec)

/-- ITS FALSE NEIGHBOUR: 'it returns false'. Refute it at one input. -/
def pickNamesWrong : ChangeSpec := { name := "pickNames", fn := fun _ => fun
  | [] => { results := [.lit (.bool false)], args := [] }
  | _ => none }
def PickNamesWrongFalsely : Prop := pickNamesRow.holds Try.pinned (OpenSpec.ofChange pickNamesWrong)

/-- 'quadratlaw15.PickSorted': WHATEVER THE INPUT: true; the input reads as it did. -/
def pickSortedSpec : ChangeSpec := { name := "pickSorted", fn := fun _ => fun
  | [d1, d2] => { results := [.lit (.bool true)], args := [d1, d2] }
  | _ => none }
def pickSortedRow : OpenClaim := { program := "ytenpohnccnlngaa", sum := "4bf7b315c2d0bc5f708a0c95b52dec1dcc0d01ea16019bc3dcc0724c0b1b326f", func := "quadrat/quadratlaw15.PickSorted", spec := "pickSorted", unfollowed := true, recurses := true, apart := false }
def PickSortedSaid : Prop := pickSortedRow.holds Try.pinned (OpenSpec.ofChange pickSortedSpec)

/-- ITS FALSE NEIGHBOUR: 'it returns false'. Refute it at one input. -/
def pickSortedWrong : ChangeSpec := { name := "pickSorted", fn := fun _ => fun
  | [d1, d2] => { results := [.lit (.bool false)], args := [d1, d2] }
  | _ => none }
def PickSortedWrongFalsely : Prop := pickSortedRow.holds Try.pinned (OpenSpec.ofChange pickSortedWrong)

/-- 'quadratlaw15.PickFound': WHATEVER THE INPUT: true; the input reads as it did. -/
def pickFoundSpec : ChangeSpec := { name := "pickFound", fn := fun _ => fun
  | [d1, d2] => { results := [.lit (.bool true)], args := [d1, d2] }
  | _ => none }
def pickFoundRow : OpenClaim := { program := "ytenpohnccnlngaa", sum := "4bf7b315c2d0bc5f708a0c95b52dec1dcc0d01ea16019bc3dcc0724c0b1b326f", func := "quadrat/quadratlaw15.PickFound", spec := "pickFound", unfollowed := true, recurses := true, apart := false }
def PickFoundSaid : Prop := pickFoundRow.holds Try.pinned (OpenSpec.ofChange pickFoundSpec)

/-- ITS FALSE NEIGHBOUR: 'it returns false'. Refute it at one input. -/
def pickFoundWrong : ChangeSpec := { name := "pickFound", fn := fun _ => fun
  | [d1, d2] => { results := [.lit (.bool false)], args := [d1, d2] }
  | _ => none }
def PickFoundWrongFalsely : Prop := pickFoundRow.holds Try.pinned (OpenSpec.ofChange pickFoundWrong)

/-- 'quadratlaw15.PickWhole': WHATEVER THE INPUT: true; the input reads as it did. -/
def pickWholeSpec : ChangeSpec := { name := "pickWhole", fn := fun _ => fun
  | [d] => { results := [.lit (.bool true)], args := [d] }
  | _ => none }
def pickWholeRow : OpenClaim := { program := "ytenpohnccnlngaa", sum := "4bf7b315c2d0bc5f708a0c95b52dec1dcc0d01ea16019bc3dcc0724c0b1b326f", func := "quadrat/quadratlaw15.PickWhole", spec := "pickWhole", unfollowed := true, recurses := true, apart := false }
def PickWholeSaid : Prop := pickWholeRow.holds Try.pinned (OpenSpec.ofChange pickWholeSpec)

/-- ITS FALSE NEIGHBOUR: 'it returns false'. Refute it at one input. -/
def pickWholeWrong : ChangeSpec := { name := "pickWhole", fn := fun _ => fun
  | [d] => { results := [.lit (.bool false)], args := [d] }
  | _ => none }
def PickWholeWrongFalsely : Prop := pickWholeRow.holds Try.pinned (OpenSpec.ofChange pickWholeWrong)

/-- 'quadratlaw15.PickTells': WHATEVER THE INPUT: true; the input reads as it did. -/
def pickTellsSpec : ChangeSpec := { name := "pickTells", fn := fun _ => fun
  | [d1, d2, d3] => { results := [.lit (.bool true)], args := [d1, d2, d3] }
  | _ => none }
def pickTellsRow : OpenClaim := { program := "ytenpohnccnlngaa", sum := "4bf7b315c2d0bc5f708a0c95b52dec1dcc0d01ea16019bc3dcc0724c0b1b326f", func := "quadrat/quadratlaw15.PickTells", spec := "pickTells", unfollowed := true, recurses := true, apart := false }
def PickTellsSaid : Prop := pickTellsRow.holds Try.pinned (OpenSpec.ofChange pickTellsSpec)

/-- ITS FALSE NEIGHBOUR: 'it returns false'. Refute it at one input. -/
def pickTellsWrong : ChangeSpec := { name := "pickTells", fn := fun _ => fun
  | [d1, d2, d3] => { results := [.lit (.bool false)], args := [d1, d2, d3] }
  | _ => none }
def PickTellsWrongFalsely : Prop := pickTellsRow.holds Try.pinned (OpenSpec.ofChange pickTellsWrong)

/-- 'quadratlaw15.PickMask': WHATEVER THE INPUT: true; the input reads as it did. -/
def pickMaskSpec : ChangeSpec := { name := "pickMask", fn := fun _ => fun
  | [d1, d2] => { results := [.lit (.bool true)], args := [d1, d2] }
  | _ => none }
def pickMaskRow : OpenClaim := { program := "ytenpohnccnlngaa", sum := "4bf7b315c2d0bc5f708a0c95b52dec1dcc0d01ea16019bc3dcc0724c0b1b326f", func := "quadrat/quadratlaw15.PickMask", spec := "pickMask", unfollowed := true, recurses := true, apart := false }
def PickMaskSaid : Prop := pickMaskRow.holds Try.pinned (OpenSpec.ofChange pickMaskSpec)

/-- ITS FALSE NEIGHBOUR: 'it returns false'. Refute it at one input. -/
def pickMaskWrong : ChangeSpec := { name := "pickMask", fn := fun _ => fun
  | [d1, d2] => { results := [.lit (.bool false)], args := [d1, d2] }
  | _ => none }
def PickMaskWrongFalsely : Prop := pickMaskRow.holds Try.pinned (OpenSpec.ofChange pickMaskWrong)

/- THE SECOND FORM. 'bulk': how many values and letters a reading holds, each counted each time it is reached (what is shared counts as often as it is met; a slice's spare places count too). A statement '..UptoSaid' is the law's where the arguments, and the package variables that the reading takes, are together of bulk at most 1048576: NARROWER than '..Said'. Prove '..Said' where nothing that the law and all that it calls make is longer than what came in: it says more and counts as full. Else prove '..UptoSaid'. A law counts once. -/
mutual
def uptoBulk {H : Type} : DataW H → Nat
  | .lit (.string bytes) => bytes.length + 1
  | .lit _ => 1
  | .nil => 1
  | .ptr d => uptoBulk d + 1
  | .slice elems spare => uptoBulkAll elems + uptoBulkAll spare + 1
  | .agg parts => uptoBulkAll parts + 1
  | .iface _ d => uptoBulk d + 1
  | .map entries => uptoBulkEntries entries + 1
  | .held _ => 1
def uptoBulkAll {H : Type} : List (DataW H) → Nat
  | [] => 0
  | d :: r => uptoBulk d + uptoBulkAll r
def uptoBulkEntries {H : Type} : List (Lit × DataW H) → Nat
  | [] => 0
  | x :: r => uptoBulkEntry x + uptoBulkEntries r
def uptoBulkEntry {H : Type} : Lit × DataW H → Nat
  | (.string bytes, d) => bytes.length + uptoBulk d + 1
  | (_, d) => uptoBulk d + 1
 end
def uptoSmall : (H : Type) → List (DataW H) → Bool := fun _ ds => decide (uptoBulkAll ds ≤ 1048576)
def OpenSpec.upto (s : _root_.Go.ChangeSpec) : _root_.Go.OpenSpec := { _root_.Go.OpenSpec.ofChange s with cond := some uptoSmall }

/-- 'quadratlaw13.MoldNames', WHERE WHAT IT READS IS OF BULK AT MOST 1048576: true; the input reads as it did. -/
def moldNamesUptoRow : OpenClaim := { program := "ytenpohnccnlngaa", sum := "4bf7b315c2d0bc5f708a0c95b52dec1dcc0d01ea16019bc3dcc0724c0b1b326f", func := "quadrat/quadratlaw13.MoldNames", spec := "moldNames", unfollowed := true, recurses := true, apart := false, narrowed := true }
def MoldNamesUptoSaid : Prop := moldNamesUptoRow.holds Try.pinned (OpenSpec.upto moldNamesSpec)

/-- 'quadratlaw13.MoldParts', WHERE WHAT IT READS IS OF BULK AT MOST 1048576: true; the input reads as it did. -/
def moldPartsUptoRow : OpenClaim := { program := "ytenpohnccnlngaa", sum := "4bf7b315c2d0bc5f708a0c95b52dec1dcc0d01ea16019bc3dcc0724c0b1b326f", func := "quadrat/quadratlaw13.MoldParts", spec := "moldParts", unfollowed := true, recurses := true, apart := false, narrowed := true }
def MoldPartsUptoSaid : Prop := moldPartsUptoRow.holds Try.pinned (OpenSpec.upto moldPartsSpec)

/-- 'quadratlaw13.MoldTells', WHERE WHAT IT READS IS OF BULK AT MOST 1048576: true; the input reads as it did. -/
def moldTellsUptoRow : OpenClaim := { program := "ytenpohnccnlngaa", sum := "4bf7b315c2d0bc5f708a0c95b52dec1dcc0d01ea16019bc3dcc0724c0b1b326f", func := "quadrat/quadratlaw13.MoldTells", spec := "moldTells", unfollowed := true, recurses := true, apart := false, narrowed := true }
def MoldTellsUptoSaid : Prop := moldTellsUptoRow.holds Try.pinned (OpenSpec.upto moldTellsSpec)

/-- 'quadratlaw14.TurnNames', WHERE WHAT IT READS IS OF BULK AT MOST 1048576: true; the input reads as it did. -/
def turnNamesUptoRow : OpenClaim := { program := "ytenpohnccnlngaa", sum := "4bf7b315c2d0bc5f708a0c95b52dec1dcc0d01ea16019bc3dcc0724c0b1b326f", func := "quadrat/quadratlaw14.TurnNames", spec := "turnNames", unfollowed := true, recurses := true, apart := false, narrowed := true }
def TurnNamesUptoSaid : Prop := turnNamesUptoRow.holds Try.pinned (OpenSpec.upto turnNamesSpec)

/-- 'quadratlaw14.TurnRows', WHERE WHAT IT READS IS OF BULK AT MOST 1048576: true; the input reads as it did. -/
def turnRowsUptoRow : OpenClaim := { program := "ytenpohnccnlngaa", sum := "4bf7b315c2d0bc5f708a0c95b52dec1dcc0d01ea16019bc3dcc0724c0b1b326f", func := "quadrat/quadratlaw14.TurnRows", spec := "turnRows", unfollowed := true, recurses := true, apart := false, narrowed := true }
def TurnRowsUptoSaid : Prop := turnRowsUptoRow.holds Try.pinned (OpenSpec.upto turnRowsSpec)

/-- 'quadratlaw14.TurnTells', WHERE WHAT IT READS IS OF BULK AT MOST 1048576: true; the input reads as it did. -/
def turnTellsUptoRow : OpenClaim := { program := "ytenpohnccnlngaa", sum := "4bf7b315c2d0bc5f708a0c95b52dec1dcc0d01ea16019bc3dcc0724c0b1b326f", func := "quadrat/quadratlaw14.TurnTells", spec := "turnTells", unfollowed := true, recurses := true, apart := false, narrowed := true }
def TurnTellsUptoSaid : Prop := turnTellsUptoRow.holds Try.pinned (OpenSpec.upto turnTellsSpec)

/-- 'quadratlaw15.PickNames', WHERE WHAT IT READS IS OF BULK AT MOST 1048576: true; the input reads as it did. -/
def pickNamesUptoRow : OpenClaim := { program := "ytenpohnccnlngaa", sum := "4bf7b315c2d0bc5f708a0c95b52dec1dcc0d01ea16019bc3dcc0724c0b1b326f", func := "quadrat/quadratlaw15.PickNames", spec := "pickNames", unfollowed := true, recurses := true, apart := false, narrowed := true }
def PickNamesUptoSaid : Prop := pickNamesUptoRow.holds Try.pinned (OpenSpec.upto pickNamesSpec)

/-- 'quadratlaw15.PickSorted', WHERE WHAT IT READS IS OF BULK AT MOST 1048576: true; the input reads as it did. -/
def pickSortedUptoRow : OpenClaim := { program := "ytenpohnccnlngaa", sum := "4bf7b315c2d0bc5f708a0c95b52dec1dcc0d01ea16019bc3dcc0724c0b1b326f", func := "quadrat/quadratlaw15.PickSorted", spec := "pickSorted", unfollowed := true, recurses := true, apart := false, narrowed := true }
def PickSortedUptoSaid : Prop := pickSortedUptoRow.holds Try.pinned (OpenSpec.upto pickSortedSpec)

/-- 'quadratlaw15.PickFound', WHERE WHAT IT READS IS OF BULK AT MOST 1048576: true; the input reads as it did. -/
def pickFoundUptoRow : OpenClaim := { program := "ytenpohnccnlngaa", sum := "4bf7b315c2d0bc5f708a0c95b52dec1dcc0d01ea16019bc3dcc0724c0b1b326f", func := "quadrat/quadratlaw15.PickFound", spec := "pickFound", unfollowed := true, recurses := true, apart := false, narrowed := true }
def PickFoundUptoSaid : Prop := pickFoundUptoRow.holds Try.pinned (OpenSpec.upto pickFoundSpec)

/-- 'quadratlaw15.PickWhole', WHERE WHAT IT READS IS OF BULK AT MOST 1048576: true; the input reads as it did. -/
def pickWholeUptoRow : OpenClaim := { program := "ytenpohnccnlngaa", sum := "4bf7b315c2d0bc5f708a0c95b52dec1dcc0d01ea16019bc3dcc0724c0b1b326f", func := "quadrat/quadratlaw15.PickWhole", spec := "pickWhole", unfollowed := true, recurses := true, apart := false, narrowed := true }
def PickWholeUptoSaid : Prop := pickWholeUptoRow.holds Try.pinned (OpenSpec.upto pickWholeSpec)

/-- 'quadratlaw15.PickTells', WHERE WHAT IT READS IS OF BULK AT MOST 1048576: true; the input reads as it did. -/
def pickTellsUptoRow : OpenClaim := { program := "ytenpohnccnlngaa", sum := "4bf7b315c2d0bc5f708a0c95b52dec1dcc0d01ea16019bc3dcc0724c0b1b326f", func := "quadrat/quadratlaw15.PickTells", spec := "pickTells", unfollowed := true, recurses := true, apart := false, narrowed := true }
def PickTellsUptoSaid : Prop := pickTellsUptoRow.holds Try.pinned (OpenSpec.upto pickTellsSpec)

/-- 'quadratlaw15.PickMask', WHERE WHAT IT READS IS OF BULK AT MOST 1048576: true; the input reads as it did. -/
def pickMaskUptoRow : OpenClaim := { program := "ytenpohnccnlngaa", sum := "4bf7b315c2d0bc5f708a0c95b52dec1dcc0d01ea16019bc3dcc0724c0b1b326f", func := "quadrat/quadratlaw15.PickMask", spec := "pickMask", unfollowed := true, recurses := true, apart := false, narrowed := true }
def PickMaskUptoSaid : Prop := pickMaskUptoRow.holds Try.pinned (OpenSpec.upto pickMaskSpec)

end Rows
end Go.Proofs.Ytenpohnccnlngaa

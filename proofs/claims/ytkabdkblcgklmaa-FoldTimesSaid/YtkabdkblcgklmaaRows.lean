/-
  No cell of these rows narrows 'for every input' (looked for: loops, veiled, ifaces, maps, wideKeys, modest, calm, conditions, laid).
  DERIVED. THE GIVEN ROWS OF THIS SEAT. 11 by the template 'for every input the law returns true; each argument reads behind the call as it read before'; 0 by the template 'total and deterministic' (their statements: YtkabdkblcgklmaaTotals.lean).
  GIVEN WITH THE SEED: the statements are not yours to turn. If you find one false, say at which input.
  Laid BY PROGRAM, IN A SANDBOX (cutbox-rows.mjs): the forced cells as the released guide's own fill.sh prints them over the translation 49c8b0c22e186b67… (all of the seat's roots in one cut). By AI agents, Wed Nov 11 2026. No macro, syntax, notation, axiom, sorry.
-/
import Derived.Test.YtkabdkblcgklmaaChecked
import GoSem.Claim
import GoSem.ClaimJoined
import GoSem.ClaimMapViews
import Derived.JoinedTies
import Derived.KernelRfl
namespace Go.Proofs.Ytkabdkblcgklmaa
/- THE CELL 'sum', in the pinned program and in every row, IS THE sha256 OF THE DUMP (.gsa) THAT YtkabdkblcgklmaaProg.lean LOADS. Nothing in Lean hashes anything: it is a label: what it is worth is what the hold of that sum in a sandbox is worth. -/
noncomputable def Try.pinned : Pinned := { name := "ytkabdkblcgklmaa", sum := "49c8b0c22e186b678e96e8ee7708dd17fbd8cf15acf8e7f5ddd132b1e4b880b8", checked := Try.checked }
namespace Rows
def none {H : Type} : Left H := { results := [], args := [] }

/-- 'quadratlaw15.PickSorted': WHATEVER THE INPUT: true; the input reads as it did. -/
def pickSortedSpec : ChangeSpec := { name := "pickSorted", fn := fun _ => fun
  | [d1, d2] => { results := [.lit (.bool true)], args := [d1, d2] }
  | _ => none }
def pickSortedRow : OpenClaim := { program := "ytkabdkblcgklmaa", sum := "49c8b0c22e186b678e96e8ee7708dd17fbd8cf15acf8e7f5ddd132b1e4b880b8", func := "quadrat/quadratlaw15.PickSorted", spec := "pickSorted", unfollowed := true, recurses := true, apart := false }
def PickSortedSaid : Prop := pickSortedRow.holds Try.pinned (OpenSpec.ofChange pickSortedSpec)

/-- ITS FALSE NEIGHBOUR: 'it returns false'. Refute it at one input. -/
def pickSortedWrong : ChangeSpec := { name := "pickSorted", fn := fun _ => fun
  | [d1, d2] => { results := [.lit (.bool false)], args := [d1, d2] }
  | _ => none }
def PickSortedWrongFalsely : Prop := pickSortedRow.holds Try.pinned (OpenSpec.ofChange pickSortedWrong)

/-- 'quadratlaw15.PickFound': WHATEVER THE INPUT: true; the input reads as it did. -/
def pickFoundSpec : ChangeSpec := { name := "pickFound", fn := fun _ => fun
  | [d1, d2] => { results := [.lit (.bool true)], args := [d1, d2] }
  | _ => none }
def pickFoundRow : OpenClaim := { program := "ytkabdkblcgklmaa", sum := "49c8b0c22e186b678e96e8ee7708dd17fbd8cf15acf8e7f5ddd132b1e4b880b8", func := "quadrat/quadratlaw15.PickFound", spec := "pickFound", unfollowed := true, recurses := true, apart := false }
def PickFoundSaid : Prop := pickFoundRow.holds Try.pinned (OpenSpec.ofChange pickFoundSpec)

/-- ITS FALSE NEIGHBOUR: 'it returns false'. Refute it at one input. -/
def pickFoundWrong : ChangeSpec := { name := "pickFound", fn := fun _ => fun
  | [d1, d2] => { results := [.lit (.bool false)], args := [d1, d2] }
  | _ => none }
def PickFoundWrongFalsely : Prop := pickFoundRow.holds Try.pinned (OpenSpec.ofChange pickFoundWrong)

/-- 'quadratlaw15.PickWhole': WHATEVER THE INPUT: true; the input reads as it did. -/
def pickWholeSpec : ChangeSpec := { name := "pickWhole", fn := fun _ => fun
  | [d] => { results := [.lit (.bool true)], args := [d] }
  | _ => none }
def pickWholeRow : OpenClaim := { program := "ytkabdkblcgklmaa", sum := "49c8b0c22e186b678e96e8ee7708dd17fbd8cf15acf8e7f5ddd132b1e4b880b8", func := "quadrat/quadratlaw15.PickWhole", spec := "pickWhole", unfollowed := true, recurses := true, apart := false }
def PickWholeSaid : Prop := pickWholeRow.holds Try.pinned (OpenSpec.ofChange pickWholeSpec)

/-- ITS FALSE NEIGHBOUR: 'it returns false'. Refute it at one input. -/
def pickWholeWrong : ChangeSpec := { name := "pickWhole", fn := fun _ => fun
  | [d] => { results := [.lit (.bool false)], args := [d] }
  | _ => none }
def PickWholeWrongFalsely : Prop := pickWholeRow.holds Try.pinned (OpenSpec.ofChange pickWholeWrong)

/-- 'quadratlaw15.PickMask': WHATEVER THE INPUT: true; the input reads as it did. -/
def pickMaskSpec : ChangeSpec := { name := "pickMask", fn := fun _ => fun
  | [d1, d2] => { results := [.lit (.bool true)], args := [d1, d2] }
  | _ => none }
def pickMaskRow : OpenClaim := { program := "ytkabdkblcgklmaa", sum := "49c8b0c22e186b678e96e8ee7708dd17fbd8cf15acf8e7f5ddd132b1e4b880b8", func := "quadrat/quadratlaw15.PickMask", spec := "pickMask", unfollowed := true, recurses := true, apart := false }
def PickMaskSaid : Prop := pickMaskRow.holds Try.pinned (OpenSpec.ofChange pickMaskSpec)

/-- ITS FALSE NEIGHBOUR: 'it returns false'. Refute it at one input. -/
def pickMaskWrong : ChangeSpec := { name := "pickMask", fn := fun _ => fun
  | [d1, d2] => { results := [.lit (.bool false)], args := [d1, d2] }
  | _ => none }
def PickMaskWrongFalsely : Prop := pickMaskRow.holds Try.pinned (OpenSpec.ofChange pickMaskWrong)

/-- 'quadratlaw16.FoldRows': WHATEVER THE INPUT: true; the input reads as it did. -/
def foldRowsSpec : ChangeSpec := { name := "foldRows", fn := fun _ => fun
  | [d1, d2] => { results := [.lit (.bool true)], args := [d1, d2] }
  | _ => none }
def foldRowsRow : OpenClaim := { program := "ytkabdkblcgklmaa", sum := "49c8b0c22e186b678e96e8ee7708dd17fbd8cf15acf8e7f5ddd132b1e4b880b8", func := "quadrat/quadratlaw16.FoldRows", spec := "foldRows", unfollowed := true, recurses := true, apart := false }
def FoldRowsSaid : Prop := foldRowsRow.holds Try.pinned (OpenSpec.ofChange foldRowsSpec)

/-- ITS FALSE NEIGHBOUR: 'it returns false'. Refute it at one input. -/
def foldRowsWrong : ChangeSpec := { name := "foldRows", fn := fun _ => fun
  | [d1, d2] => { results := [.lit (.bool false)], args := [d1, d2] }
  | _ => none }
def FoldRowsWrongFalsely : Prop := foldRowsRow.holds Try.pinned (OpenSpec.ofChange foldRowsWrong)

/-- 'quadratlaw16.FoldNames': WHATEVER THE INPUT: true; the input reads as it did. -/
def foldNamesSpec : ChangeSpec := { name := "foldNames", fn := fun _ => fun
  | [] => { results := [.lit (.bool true)], args := [] }
  | _ => none }
def foldNamesRow : OpenClaim := { program := "ytkabdkblcgklmaa", sum := "49c8b0c22e186b678e96e8ee7708dd17fbd8cf15acf8e7f5ddd132b1e4b880b8", func := "quadrat/quadratlaw16.FoldNames", spec := "foldNames", unfollowed := true, recurses := true, apart := false }
def FoldNamesSaid : Prop := foldNamesRow.holds Try.pinned (OpenSpec.ofChange foldNamesSpec)

/-- ITS FALSE NEIGHBOUR: 'it returns false'. Refute it at one input. -/
def foldNamesWrong : ChangeSpec := { name := "foldNames", fn := fun _ => fun
  | [] => { results := [.lit (.bool false)], args := [] }
  | _ => none }
def FoldNamesWrongFalsely : Prop := foldNamesRow.holds Try.pinned (OpenSpec.ofChange foldNamesWrong)

/-- 'quadratlaw16.FoldParts': WHATEVER THE INPUT: true; the input reads as it did. -/
def foldPartsSpec : ChangeSpec := { name := "foldParts", fn := fun _ => fun
  | [d1, d2, d3] => { results := [.lit (.bool true)], args := [d1, d2, d3] }
  | _ => none }
def foldPartsRow : OpenClaim := { program := "ytkabdkblcgklmaa", sum := "49c8b0c22e186b678e96e8ee7708dd17fbd8cf15acf8e7f5ddd132b1e4b880b8", func := "quadrat/quadratlaw16.FoldParts", spec := "foldParts", unfollowed := true, recurses := true, apart := false }
def FoldPartsSaid : Prop := foldPartsRow.holds Try.pinned (OpenSpec.ofChange foldPartsSpec)

/-- ITS FALSE NEIGHBOUR: 'it returns false'. Refute it at one input. -/
def foldPartsWrong : ChangeSpec := { name := "foldParts", fn := fun _ => fun
  | [d1, d2, d3] => { results := [.lit (.bool false)], args := [d1, d2, d3] }
  | _ => none }
def FoldPartsWrongFalsely : Prop := foldPartsRow.holds Try.pinned (OpenSpec.ofChange foldPartsWrong)

/-- 'quadratlaw16.FoldEach': WHATEVER THE INPUT: true; the input reads as it did. -/
def foldEachSpec : ChangeSpec := { name := "foldEach", fn := fun _ => fun
  | [d1, d2, d3, d4] => { results := [.lit (.bool true)], args := [d1, d2, d3, d4] }
  | _ => none }
def foldEachRow : OpenClaim := { program := "ytkabdkblcgklmaa", sum := "49c8b0c22e186b678e96e8ee7708dd17fbd8cf15acf8e7f5ddd132b1e4b880b8", func := "quadrat/quadratlaw16.FoldEach", spec := "foldEach", unfollowed := true, recurses := true, apart := false }
def FoldEachSaid : Prop := foldEachRow.holds Try.pinned (OpenSpec.ofChange foldEachSpec)

/-- ITS FALSE NEIGHBOUR: 'it returns false'. Refute it at one input. -/
def foldEachWrong : ChangeSpec := { name := "foldEach", fn := fun _ => fun
  | [d1, d2, d3, d4] => { results := [.lit (.bool false)], args := [d1, d2, d3, d4] }
  | _ => none }
def FoldEachWrongFalsely : Prop := foldEachRow.holds Try.pinned (OpenSpec.ofChange foldEachWrong)

/-- 'quadratlaw16.FoldTimes': WHATEVER THE INPUT: true; the input reads as it did. -/
def foldTimesSpec : ChangeSpec := { name := "foldTimes", fn := fun _ => fun
  | [d1, d2, d3, d4] => { results := [.lit (.bool true)], args := [d1, d2, d3, d4] }
  | _ => none }
def foldTimesRow : OpenClaim := { program := "ytkabdkblcgklmaa", sum := "49c8b0c22e186b678e96e8ee7708dd17fbd8cf15acf8e7f5ddd132b1e4b880b8", func := "quadrat/quadratlaw16.FoldTimes", spec := "foldTimes", unfollowed := true, recurses := true, apart := false }
def FoldTimesSaid : Prop := foldTimesRow.holds Try.pinned (OpenSpec.ofChange foldTimesSpec)

/-- ITS FALSE NEIGHBOUR: 'it returns false'. Refute it at one input. -/
def foldTimesWrong : ChangeSpec := { name := "foldTimes", fn := fun _ => fun
  | [d1, d2, d3, d4] => { results := [.lit (.bool false)], args := [d1, d2, d3, d4] }
  | _ => none }
def FoldTimesWrongFalsely : Prop := foldTimesRow.holds Try.pinned (OpenSpec.ofChange foldTimesWrong)

/-- 'quadratlaw16.FoldTurned': WHATEVER THE INPUT: true; the input reads as it did. -/
def foldTurnedSpec : ChangeSpec := { name := "foldTurned", fn := fun _ => fun
  | [d1, d2, d3] => { results := [.lit (.bool true)], args := [d1, d2, d3] }
  | _ => none }
def foldTurnedRow : OpenClaim := { program := "ytkabdkblcgklmaa", sum := "49c8b0c22e186b678e96e8ee7708dd17fbd8cf15acf8e7f5ddd132b1e4b880b8", func := "quadrat/quadratlaw16.FoldTurned", spec := "foldTurned", unfollowed := true, recurses := true, apart := false }
def FoldTurnedSaid : Prop := foldTurnedRow.holds Try.pinned (OpenSpec.ofChange foldTurnedSpec)

/-- ITS FALSE NEIGHBOUR: 'it returns false'. Refute it at one input. -/
def foldTurnedWrong : ChangeSpec := { name := "foldTurned", fn := fun _ => fun
  | [d1, d2, d3] => { results := [.lit (.bool false)], args := [d1, d2, d3] }
  | _ => none }
def FoldTurnedWrongFalsely : Prop := foldTurnedRow.holds Try.pinned (OpenSpec.ofChange foldTurnedWrong)

/-- 'quadratlaw16.FoldMost': WHATEVER THE INPUT: true; the input reads as it did. -/
def foldMostSpec : ChangeSpec := { name := "foldMost", fn := fun _ => fun
  | [d] => { results := [.lit (.bool true)], args := [d] }
  | _ => none }
def foldMostRow : OpenClaim := { program := "ytkabdkblcgklmaa", sum := "49c8b0c22e186b678e96e8ee7708dd17fbd8cf15acf8e7f5ddd132b1e4b880b8", func := "quadrat/quadratlaw16.FoldMost", spec := "foldMost", unfollowed := true, recurses := true, apart := false }
def FoldMostSaid : Prop := foldMostRow.holds Try.pinned (OpenSpec.ofChange foldMostSpec)

/-- ITS FALSE NEIGHBOUR: 'it returns false'. Refute it at one input. -/
def foldMostWrong : ChangeSpec := { name := "foldMost", fn := fun _ => fun
  | [d] => { results := [.lit (.bool false)], args := [d] }
  | _ => none }
def FoldMostWrongFalsely : Prop := foldMostRow.holds Try.pinned (OpenSpec.ofChange foldMostWrong)

/- THE SECOND FORM. 'bulk': how many values and letters a reading holds, each counted each time it is reached (what is shared counts as often as it is met; a slice's spare places count too). A statement '..UptoSaid' is the law's where the arguments, and the package variables that the reading takes, are together of bulk at most 1048576: NARROWER than '..Said'. Prove '..Said' where nothing that the law and all that it calls make is longer than what came in: it says more and counts as full. Else prove '..UptoSaid'. A law counts once. -/
mutual
def uptoBulk {H : Type} : DataW H → Nat
  | .lit (.string bytes) => bytes.length + 1
  | .lit _ => 1
  | .nil => 1
  | .ptr d => uptoBulk d + 1
  | .slice elems spare => uptoBulkAll elems + uptoBulkAll spare + 1
  | .agg parts => uptoBulkAll parts + 1
  | .iface _ d => uptoBulk d + 1
  | .map entries => uptoBulkEntries entries + 1
  | .held _ => 1
def uptoBulkAll {H : Type} : List (DataW H) → Nat
  | [] => 0
  | d :: r => uptoBulk d + uptoBulkAll r
def uptoBulkEntries {H : Type} : List (Lit × DataW H) → Nat
  | [] => 0
  | x :: r => uptoBulkEntry x + uptoBulkEntries r
def uptoBulkEntry {H : Type} : Lit × DataW H → Nat
  | (.string bytes, d) => bytes.length + uptoBulk d + 1
  | (_, d) => uptoBulk d + 1
 end
def uptoSmall : (H : Type) → List (DataW H) → Bool := fun _ ds => decide (uptoBulkAll ds ≤ 1048576)
def OpenSpec.upto (s : _root_.Go.ChangeSpec) : _root_.Go.OpenSpec := { _root_.Go.OpenSpec.ofChange s with cond := some uptoSmall }

/-- 'quadratlaw15.PickSorted', WHERE WHAT IT READS IS OF BULK AT MOST 1048576: true; the input reads as it did. -/
def pickSortedUptoRow : OpenClaim := { program := "ytkabdkblcgklmaa", sum := "49c8b0c22e186b678e96e8ee7708dd17fbd8cf15acf8e7f5ddd132b1e4b880b8", func := "quadrat/quadratlaw15.PickSorted", spec := "pickSorted", unfollowed := true, recurses := true, apart := false, narrowed := true }
def PickSortedUptoSaid : Prop := pickSortedUptoRow.holds Try.pinned (OpenSpec.upto pickSortedSpec)

/-- 'quadratlaw15.PickFound', WHERE WHAT IT READS IS OF BULK AT MOST 1048576: true; the input reads as it did. -/
def pickFoundUptoRow : OpenClaim := { program := "ytkabdkblcgklmaa", sum := "49c8b0c22e186b678e96e8ee7708dd17fbd8cf15acf8e7f5ddd132b1e4b880b8", func := "quadrat/quadratlaw15.PickFound", spec := "pickFound", unfollowed := true, recurses := true, apart := false, narrowed := true }
def PickFoundUptoSaid : Prop := pickFoundUptoRow.holds Try.pinned (OpenSpec.upto pickFoundSpec)

/-- 'quadratlaw15.PickWhole', WHERE WHAT IT READS IS OF BULK AT MOST 1048576: true; the input reads as it did. -/
def pickWholeUptoRow : OpenClaim := { program := "ytkabdkblcgklmaa", sum := "49c8b0c22e186b678e96e8ee7708dd17fbd8cf15acf8e7f5ddd132b1e4b880b8", func := "quadrat/quadratlaw15.PickWhole", spec := "pickWhole", unfollowed := true, recurses := true, apart := false, narrowed := true }
def PickWholeUptoSaid : Prop := pickWholeUptoRow.holds Try.pinned (OpenSpec.upto pickWholeSpec)

/-- 'quadratlaw15.PickMask', WHERE WHAT IT READS IS OF BULK AT MOST 1048576: true; the input reads as it did. -/
def pickMaskUptoRow : OpenClaim := { program := "ytkabdkblcgklmaa", sum := "49c8b0c22e186b678e96e8ee7708dd17fbd8cf15acf8e7f5ddd132b1e4b880b8", func := "quadrat/quadratlaw15.PickMask", spec := "pickMask", unfollowed := true, recurses := true, apart := false, narrowed := true }
def PickMaskUptoSaid : Prop := pickMaskUptoRow.holds Try.pinned (OpenSpec.upto pickMaskSpec)

/-- 'quadratlaw16.FoldRows', WHERE WHAT IT READS IS OF BULK AT MOST 1048576: true; the input reads as it did. -/
def foldRowsUptoRow : OpenClaim := { program := "ytkabdkblcgklmaa", sum := "49c8b0c22e186b678e96e8ee7708dd17fbd8cf15acf8e7f5ddd132b1e4b880b8", func := "quadrat/quadratlaw16.FoldRows", spec := "foldRows", unfollowed := true, recurses := true, apart := false, narrowed := true }
def FoldRowsUptoSaid : Prop := foldRowsUptoRow.holds Try.pinned (OpenSpec.upto foldRowsSpec)

/-- 'quadratlaw16.FoldNames', WHERE WHAT IT READS IS OF BULK AT MOST 1048576: true; the input reads as it did. -/
def foldNamesUptoRow : OpenClaim := { program := "ytkabdkblcgklmaa", sum := "49c8b0c22e186b678e96e8ee7708dd17fbd8cf15acf8e7f5ddd132b1e4b880b8", func := "quadrat/quadratlaw16.FoldNames", spec := "foldNames", unfollowed := true, recurses := true, apart := false, narrowed := true }
def FoldNamesUptoSaid : Prop := foldNamesUptoRow.holds Try.pinned (OpenSpec.upto foldNamesSpec)

/-- 'quadratlaw16.FoldParts', WHERE WHAT IT READS IS OF BULK AT MOST 1048576: true; the input reads as it did. -/
def foldPartsUptoRow : OpenClaim := { program := "ytkabdkblcgklmaa", sum := "49c8b0c22e186b678e96e8ee7708dd17fbd8cf15acf8e7f5ddd132b1e4b880b8", func := "quadrat/quadratlaw16.FoldParts", spec := "foldParts", unfollowed := true, recurses := true, apart := false, narrowed := true }
def FoldPartsUptoSaid : Prop := foldPartsUptoRow.holds Try.pinned (OpenSpec.upto foldPartsSpec)

/-- 'quadratlaw16.FoldEach', WHERE WHAT IT READS IS OF BULK AT MOST 1048576: true; the input reads as it did. -/
def foldEachUptoRow : OpenClaim := { program := "ytkabdkblcgklmaa", sum := "49c8b0c22e186b678e96e8ee7708dd17fbd8cf15acf8e7f5ddd132b1e4b880b8", func := "quadrat/quadratlaw16.FoldEach", spec := "foldEach", unfollowed := true, recurses := true, apart := false, narrowed := true }
def FoldEachUptoSaid : Prop := foldEachUptoRow.holds Try.pinned (OpenSpec.upto foldEachSpec)

/-- 'quadratlaw16.FoldTimes', WHERE WHAT IT READS IS OF BULK AT MOST 1048576: true; the input reads as it did. -/
def foldTimesUptoRow : OpenClaim := { program := "ytkabdkblcgklmaa", sum := "49c8b0c22e186b678e96e8ee7708dd17fbd8cf15acf8e7f5ddd132b1e4b880b8", func := "quadrat/quadratlaw16.FoldTimes", spec := "foldTimes", unfollowed := true, recurses := true, apart := false, narrowed := true }
def FoldTimesUptoSaid : Prop := foldTimesUptoRow.holds Try.pinned (OpenSpec.upto foldTimesSpec)

/-- 'quadratlaw16.FoldTurned', WHERE WHAT IT READS IS OF BULK AT MOST 1048576: true; the input reads as it did. -/
def foldTurnedUptoRow : OpenClaim := { program := "ytkabdkblcgklmaa", sum := "49c8b0c22e186b678e96e8ee7708dd17fbd8cf15acf8e7f5ddd132b1e4b880b8", func := "quadrat/quadratlaw16.FoldTurned", spec := "foldTurned", unfollowed := true, recurses := true, apart := false, narrowed := true }
def FoldTurnedUptoSaid : Prop := foldTurnedUptoRow.holds Try.pinned (OpenSpec.upto foldTurnedSpec)

/-- 'quadratlaw16.FoldMost', WHERE WHAT IT READS IS OF BULK AT MOST 1048576: true; the input reads as it did. -/
def foldMostUptoRow : OpenClaim := { program := "ytkabdkblcgklmaa", sum := "49c8b0c22e186b678e96e8ee7708dd17fbd8cf15acf8e7f5ddd132b1e4b880b8", func := "quadrat/quadratlaw16.FoldMost", spec := "foldMost", unfollowed := true, recurses := true, apart := false, narrowed := true }
def FoldMostUptoSaid : Prop := foldMostUptoRow.holds Try.pinned (OpenSpec.upto foldMostSpec)

end Rows
end Go.Proofs.Ytkabdkblcgklmaa

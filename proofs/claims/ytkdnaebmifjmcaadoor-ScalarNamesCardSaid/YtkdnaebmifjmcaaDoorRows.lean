/-
  NARROWER THAN 'FOR EVERY INPUT', by the rows' own cells (each row's printed sentence says how): ScalarNumbers: laid · ScalarNames: laid.
  DERIVED. THE GIVEN ROWS OF THIS SEAT. 2 by the template 'for every input the law returns true; each argument reads behind the call as it read before'; 0 by the template 'total and deterministic' (their statements: YtkdnaebmifjmcaaDoorTotals.lean).
  GIVEN WITH THE SEED: the statements are not yours to turn. If you find one false, say at which input.
  Laid BY PROGRAM, IN A SANDBOX (cutbox-rows.mjs): the forced cells as the released guide's own fill.sh prints them over the translation 4c3276db7193d6f5… (all of the seat's roots in one cut). By AI agents, Wed Nov 11 2026. No macro, syntax, notation, axiom, sorry.
-/
import Derived.Test.YtkdnaebmifjmcaaDoorChecked
import GoSem.Claim
import GoSem.ClaimJoined
import GoSem.ClaimMapViews
import Derived.JoinedTies
import Derived.KernelRfl
namespace Go.Proofs.YtkdnaebmifjmcaaDoor
/- THE CELL 'sum', in the pinned program and in every row, IS THE sha256 OF THE DUMP (.gsa) THAT YtkdnaebmifjmcaaDoorProg.lean LOADS. Nothing in Lean hashes anything: it is a label: what it is worth is what the hold of that sum in a sandbox is worth. -/
noncomputable def Tryd.pinned : Pinned := { name := "ytkdnaebmifjmcaadoor", sum := "4c3276db7193d6f535a96b0bfc619c125c4d74bb25883b77b01708f2f6b45559", checked := Tryd.checked }
namespace Rows
def none {H : Type} : Left H := { results := [], args := [] }

/- WHAT THE LISTED PACKAGE-LEVEL VARIABLES READ AS WHEN THE CALL BEGINS. Each datum BY PROGRAM (the guide's laid-datum.mjs) off the statement by which the dump's own 'gosem.cut.vars' lays the variable. In a bare row this is a premise. The card (YtkdnaebmifjmcaaDoorCards.lean) ties it to the program's text. -/
def laid_quadrat_scalar_glyphs {H : Type} : DataW H := .agg [.lit (.string []), .lit (.string [43]), .lit (.string [45]), .lit (.string [195, 151]), .lit (.string [195, 183]), .lit (.string [124]), .lit (.string [226, 140, 138]), .lit (.string [226, 140, 136]), .lit (.string [42]), .lit (.string [61]), .lit (.string [226, 137, 160]), .lit (.string [60]), .lit (.string [226, 137, 164]), .lit (.string [226, 137, 165]), .lit (.string [62]), .lit (.string [226, 136, 167]), .lit (.string [226, 136, 168]), .lit (.string [126])]

/-- 'quadratlaw12.ScalarNumbers': WHATEVER THE INPUT: true; the input reads as it did. -/
def scalarNumbersSpec : ChangeSpec := { name := "scalarNumbers", fn := fun _ => fun
  | [d1, d2, d3, d4, d5, d6] => { results := [.lit (.bool true)], args := [d1, d2, d3, d4, d5, d6] }
  | _ => none }
def scalarNumbersRow : OpenClaim := { program := "ytkdnaebmifjmcaadoor", sum := "4c3276db7193d6f535a96b0bfc619c125c4d74bb25883b77b01708f2f6b45559", func := "quadrat/quadratlaw12.ScalarNumbers", spec := "scalarNumbers", unfollowed := true, recurses := true, named := ["quadrat/scalar.glyphs"], apart := false, laid := [("quadrat/scalar.glyphs", laid_quadrat_scalar_glyphs)] }
def ScalarNumbersSaid : Prop := scalarNumbersRow.holds Tryd.pinned (OpenSpec.ofChange scalarNumbersSpec)

/-- ITS FALSE NEIGHBOUR: 'it returns false'. Refute it at one input. -/
def scalarNumbersWrong : ChangeSpec := { name := "scalarNumbers", fn := fun _ => fun
  | [d1, d2, d3, d4, d5, d6] => { results := [.lit (.bool false)], args := [d1, d2, d3, d4, d5, d6] }
  | _ => none }
def ScalarNumbersWrongFalsely : Prop := scalarNumbersRow.holds Tryd.pinned (OpenSpec.ofChange scalarNumbersWrong)

/-- 'quadratlaw12.ScalarNames': WHATEVER THE INPUT: true; the input reads as it did. -/
def scalarNamesSpec : ChangeSpec := { name := "scalarNames", fn := fun _ => fun
  | [] => { results := [.lit (.bool true)], args := [] }
  | _ => none }
def scalarNamesRow : OpenClaim := { program := "ytkdnaebmifjmcaadoor", sum := "4c3276db7193d6f535a96b0bfc619c125c4d74bb25883b77b01708f2f6b45559", func := "quadrat/quadratlaw12.ScalarNames", spec := "scalarNames", unfollowed := true, recurses := true, named := ["quadrat/scalar.glyphs"], apart := false, laid := [("quadrat/scalar.glyphs", laid_quadrat_scalar_glyphs)] }
def ScalarNamesSaid : Prop := scalarNamesRow.holds Tryd.pinned (OpenSpec.ofChange scalarNamesSpec)

/-- ITS FALSE NEIGHBOUR: 'it returns false'. Refute it at one input. -/
def scalarNamesWrong : ChangeSpec := { name := "scalarNames", fn := fun _ => fun
  | [] => { results := [.lit (.bool false)], args := [] }
  | _ => none }
def ScalarNamesWrongFalsely : Prop := scalarNamesRow.holds Tryd.pinned (OpenSpec.ofChange scalarNamesWrong)

/- THE SECOND FORM. 'bulk': how many values and letters a reading holds, each counted each time it is reached (what is shared counts as often as it is met; a slice's spare places count too). A statement '..UptoSaid' is the law's where the arguments, and the package variables that the reading takes, are together of bulk at most 1048576: NARROWER than '..Said'. Prove '..Said' where nothing that the law and all that it calls make is longer than what came in: it says more and counts as full. Else prove '..UptoSaid'. A law counts once. -/
mutual
def uptoBulk {H : Type} : DataW H → Nat
  | .lit (.string bytes) => bytes.length + 1
  | .lit _ => 1
  | .nil => 1
  | .ptr d => uptoBulk d + 1
  | .slice elems spare => uptoBulkAll elems + uptoBulkAll spare + 1
  | .agg parts => uptoBulkAll parts + 1
  | .iface _ d => uptoBulk d + 1
  | .map entries => uptoBulkEntries entries + 1
  | .held _ => 1
def uptoBulkAll {H : Type} : List (DataW H) → Nat
  | [] => 0
  | d :: r => uptoBulk d + uptoBulkAll r
def uptoBulkEntries {H : Type} : List (Lit × DataW H) → Nat
  | [] => 0
  | x :: r => uptoBulkEntry x + uptoBulkEntries r
def uptoBulkEntry {H : Type} : Lit × DataW H → Nat
  | (.string bytes, d) => bytes.length + uptoBulk d + 1
  | (_, d) => uptoBulk d + 1
 end
def uptoSmall : (H : Type) → List (DataW H) → Bool := fun _ ds => decide (uptoBulkAll ds ≤ 1048576)
def OpenSpec.upto (s : _root_.Go.ChangeSpec) : _root_.Go.OpenSpec := { _root_.Go.OpenSpec.ofChange s with cond := some uptoSmall }

/-- 'quadratlaw12.ScalarNumbers', WHERE WHAT IT READS IS OF BULK AT MOST 1048576: true; the input reads as it did. -/
def scalarNumbersUptoRow : OpenClaim := { program := "ytkdnaebmifjmcaadoor", sum := "4c3276db7193d6f535a96b0bfc619c125c4d74bb25883b77b01708f2f6b45559", func := "quadrat/quadratlaw12.ScalarNumbers", spec := "scalarNumbers", unfollowed := true, recurses := true, named := ["quadrat/scalar.glyphs"], apart := false, laid := [("quadrat/scalar.glyphs", laid_quadrat_scalar_glyphs)], narrowed := true }
def ScalarNumbersUptoSaid : Prop := scalarNumbersUptoRow.holds Tryd.pinned (OpenSpec.upto scalarNumbersSpec)

/-- 'quadratlaw12.ScalarNames', WHERE WHAT IT READS IS OF BULK AT MOST 1048576: true; the input reads as it did. -/
def scalarNamesUptoRow : OpenClaim := { program := "ytkdnaebmifjmcaadoor", sum := "4c3276db7193d6f535a96b0bfc619c125c4d74bb25883b77b01708f2f6b45559", func := "quadrat/quadratlaw12.ScalarNames", spec := "scalarNames", unfollowed := true, recurses := true, named := ["quadrat/scalar.glyphs"], apart := false, laid := [("quadrat/scalar.glyphs", laid_quadrat_scalar_glyphs)], narrowed := true }
def ScalarNamesUptoSaid : Prop := scalarNamesUptoRow.holds Tryd.pinned (OpenSpec.upto scalarNamesSpec)

end Rows
end Go.Proofs.YtkdnaebmifjmcaaDoor

/-
  No cell of these rows narrows 'for every input' (looked for: loops, veiled, ifaces, maps, wideKeys, modest, calm, conditions, laid).
  DERIVED. THE GIVEN ROWS OF THIS SEAT. 7 by the template 'for every input the law returns true; each argument reads behind the call as it read before'; 0 by the template 'total and deterministic' (their statements: YtkebbjodkhjbmaaGreatTotals.lean).
  GIVEN WITH THE SEED: the statements are not yours to turn. If you find one false, say at which input.
  Laid BY PROGRAM, IN A SANDBOX (cutbox-rows.mjs): the forced cells as the released guide's own fill.sh prints them over the translation 9f74df1fab446e77… (all of the seat's roots in one cut). By AI agents, Wed Nov 11 2026. No macro, syntax, notation, axiom, sorry.
-/
import Derived.Test.YtkebbjodkhjbmaaGreatChecked
import GoSem.Claim
import GoSem.ClaimJoined
import GoSem.ClaimMapViews
import Derived.JoinedTies
import Derived.KernelRfl
namespace Go.Proofs.YtkebbjodkhjbmaaGreat
/- THE CELL 'sum', in the pinned program and in every row, IS THE sha256 OF THE DUMP (.gsa) THAT YtkebbjodkhjbmaaGreatProg.lean LOADS. Nothing in Lean hashes anything: it is a label: what it is worth is what the hold of that sum in a sandbox is worth. -/
noncomputable def Tryz.pinned : Pinned := { name := "ytkebbjodkhjbmaagreat", sum := "9f74df1fab446e77257af1866164387e607d29aef2cc3a84057bddcf1cb53866", checked := Tryz.checked }
namespace Rows
def none {H : Type} : Left H := { results := [], args := [] }

/-- 'quadratlaw06.RootPlays': WHATEVER THE INPUT: true; the input reads as it did. -/
def rootPlaysSpec : ChangeSpec := { name := "rootPlays", fn := fun _ => fun
  | [d1, d2] => { results := [.lit (.bool true)], args := [d1, d2] }
  | _ => none }
def rootPlaysRow : OpenClaim := { program := "ytkebbjodkhjbmaagreat", sum := "9f74df1fab446e77257af1866164387e607d29aef2cc3a84057bddcf1cb53866", func := "quadrat/quadratlaw06.RootPlays", spec := "rootPlays", unfollowed := true, recurses := true, apart := false }
def RootPlaysSaid : Prop := rootPlaysRow.holds Tryz.pinned (OpenSpec.ofChange rootPlaysSpec)

/-- ITS FALSE NEIGHBOUR: 'it returns false'. Refute it at one input. -/
def rootPlaysWrong : ChangeSpec := { name := "rootPlays", fn := fun _ => fun
  | [d1, d2] => { results := [.lit (.bool false)], args := [d1, d2] }
  | _ => none }
def RootPlaysWrongFalsely : Prop := rootPlaysRow.holds Tryz.pinned (OpenSpec.ofChange rootPlaysWrong)

/-- 'quadratlaw07.FolderForms': WHATEVER THE INPUT: true; the input reads as it did. -/
def folderFormsSpec : ChangeSpec := { name := "folderForms", fn := fun _ => fun
  | [d1, d2, d3, d4] => { results := [.lit (.bool true)], args := [d1, d2, d3, d4] }
  | _ => none }
def folderFormsRow : OpenClaim := { program := "ytkebbjodkhjbmaagreat", sum := "9f74df1fab446e77257af1866164387e607d29aef2cc3a84057bddcf1cb53866", func := "quadrat/quadratlaw07.FolderForms", spec := "folderForms", unfollowed := true, recurses := true, apart := false }
def FolderFormsSaid : Prop := folderFormsRow.holds Tryz.pinned (OpenSpec.ofChange folderFormsSpec)

/-- ITS FALSE NEIGHBOUR: 'it returns false'. Refute it at one input. -/
def folderFormsWrong : ChangeSpec := { name := "folderForms", fn := fun _ => fun
  | [d1, d2, d3, d4] => { results := [.lit (.bool false)], args := [d1, d2, d3, d4] }
  | _ => none }
def FolderFormsWrongFalsely : Prop := folderFormsRow.holds Tryz.pinned (OpenSpec.ofChange folderFormsWrong)

/-- 'quadratlaw07.FolderPlays': WHATEVER THE INPUT: true; the input reads as it did. -/
def folderPlaysSpec : ChangeSpec := { name := "folderPlays", fn := fun _ => fun
  | [d1, d2] => { results := [.lit (.bool true)], args := [d1, d2] }
  | _ => none }
def folderPlaysRow : OpenClaim := { program := "ytkebbjodkhjbmaagreat", sum := "9f74df1fab446e77257af1866164387e607d29aef2cc3a84057bddcf1cb53866", func := "quadrat/quadratlaw07.FolderPlays", spec := "folderPlays", unfollowed := true, recurses := true, apart := false }
def FolderPlaysSaid : Prop := folderPlaysRow.holds Tryz.pinned (OpenSpec.ofChange folderPlaysSpec)

/-- ITS FALSE NEIGHBOUR: 'it returns false'. Refute it at one input. -/
def folderPlaysWrong : ChangeSpec := { name := "folderPlays", fn := fun _ => fun
  | [d1, d2] => { results := [.lit (.bool false)], args := [d1, d2] }
  | _ => none }
def FolderPlaysWrongFalsely : Prop := folderPlaysRow.holds Tryz.pinned (OpenSpec.ofChange folderPlaysWrong)

/-- 'quadratlaw07.FolderNames': WHATEVER THE INPUT: true; the input reads as it did. -/
def folderNamesSpec : ChangeSpec := { name := "folderNames", fn := fun _ => fun
  | [] => { results := [.lit (.bool true)], args := [] }
  | _ => none }
def folderNamesRow : OpenClaim := { program := "ytkebbjodkhjbmaagreat", sum := "9f74df1fab446e77257af1866164387e607d29aef2cc3a84057bddcf1cb53866", func := "quadrat/quadratlaw07.FolderNames", spec := "folderNames", unfollowed := true, recurses := true, apart := false }
def FolderNamesSaid : Prop := folderNamesRow.holds Tryz.pinned (OpenSpec.ofChange folderNamesSpec)

/-- ITS FALSE NEIGHBOUR: 'it returns false'. Refute it at one input. -/
def folderNamesWrong : ChangeSpec := { name := "folderNames", fn := fun _ => fun
  | [] => { results := [.lit (.bool false)], args := [] }
  | _ => none }
def FolderNamesWrongFalsely : Prop := folderNamesRow.holds Tryz.pinned (OpenSpec.ofChange folderNamesWrong)

/-- 'quadratlaw07.FolderBack': WHATEVER THE INPUT: true; the input reads as it did. -/
def folderBackSpec : ChangeSpec := { name := "folderBack", fn := fun _ => fun
  | [d1, d2] => { results := [.lit (.bool true)], args := [d1, d2] }
  | _ => none }
def folderBackRow : OpenClaim := { program := "ytkebbjodkhjbmaagreat", sum := "9f74df1fab446e77257af1866164387e607d29aef2cc3a84057bddcf1cb53866", func := "quadrat/quadratlaw07.FolderBack", spec := "folderBack", unfollowed := true, recurses := true, apart := false }
def FolderBackSaid : Prop := folderBackRow.holds Tryz.pinned (OpenSpec.ofChange folderBackSpec)

/-- ITS FALSE NEIGHBOUR: 'it returns false'. Refute it at one input. -/
def folderBackWrong : ChangeSpec := { name := "folderBack", fn := fun _ => fun
  | [d1, d2] => { results := [.lit (.bool false)], args := [d1, d2] }
  | _ => none }
def FolderBackWrongFalsely : Prop := folderBackRow.holds Tryz.pinned (OpenSpec.ofChange folderBackWrong)

/-- 'quadratlaw07.FolderCrash': WHATEVER THE INPUT: true; the input reads as it did. -/
def folderCrashSpec : ChangeSpec := { name := "folderCrash", fn := fun _ => fun
  | [d1, d2, d3, d4] => { results := [.lit (.bool true)], args := [d1, d2, d3, d4] }
  | _ => none }
def folderCrashRow : OpenClaim := { program := "ytkebbjodkhjbmaagreat", sum := "9f74df1fab446e77257af1866164387e607d29aef2cc3a84057bddcf1cb53866", func := "quadrat/quadratlaw07.FolderCrash", spec := "folderCrash", unfollowed := true, recurses := true, apart := false }
def FolderCrashSaid : Prop := folderCrashRow.holds Tryz.pinned (OpenSpec.ofChange folderCrashSpec)

/-- ITS FALSE NEIGHBOUR: 'it returns false'. Refute it at one input. -/
def folderCrashWrong : ChangeSpec := { name := "folderCrash", fn := fun _ => fun
  | [d1, d2, d3, d4] => { results := [.lit (.bool false)], args := [d1, d2, d3, d4] }
  | _ => none }
def FolderCrashWrongFalsely : Prop := folderCrashRow.holds Tryz.pinned (OpenSpec.ofChange folderCrashWrong)

/-- 'quadratlaw07.FolderPut': WHATEVER THE INPUT: true; the input reads as it did. -/
def folderPutSpec : ChangeSpec := { name := "folderPut", fn := fun _ => fun
  | [d1, d2, d3] => { results := [.lit (.bool true)], args := [d1, d2, d3] }
  | _ => none }
def folderPutRow : OpenClaim := { program := "ytkebbjodkhjbmaagreat", sum := "9f74df1fab446e77257af1866164387e607d29aef2cc3a84057bddcf1cb53866", func := "quadrat/quadratlaw07.FolderPut", spec := "folderPut", unfollowed := true, recurses := true, apart := false }
def FolderPutSaid : Prop := folderPutRow.holds Tryz.pinned (OpenSpec.ofChange folderPutSpec)

/-- ITS FALSE NEIGHBOUR: 'it returns false'. Refute it at one input. -/
def folderPutWrong : ChangeSpec := { name := "folderPut", fn := fun _ => fun
  | [d1, d2, d3] => { results := [.lit (.bool false)], args := [d1, d2, d3] }
  | _ => none }
def FolderPutWrongFalsely : Prop := folderPutRow.holds Tryz.pinned (OpenSpec.ofChange folderPutWrong)

/- THE SECOND FORM. 'bulk': how many values and letters a reading holds, each counted each time it is reached (what is shared counts as often as it is met; a slice's spare places count too). A statement '..UptoSaid' is the law's where the arguments, and the package variables that the reading takes, are together of bulk at most 1048576: NARROWER than '..Said'. Prove '..Said' where nothing that the law and all that it calls make is longer than what came in: it says more and counts as full. Else prove '..UptoSaid'. A law counts once. -/
mutual
def uptoBulk {H : Type} : DataW H → Nat
  | .lit (.string bytes) => bytes.length + 1
  | .lit _ => 1
  | .nil => 1
  | .ptr d => uptoBulk d + 1
  | .slice elems spare => uptoBulkAll elems + uptoBulkAll spare + 1
  | .agg parts => uptoBulkAll parts + 1
  | .iface _ d => uptoBulk d + 1
  | .map entries => uptoBulkEntries entries + 1
  | .held _ => 1
def uptoBulkAll {H : Type} : List (DataW H) → Nat
  | [] => 0
  | d :: r => uptoBulk d + uptoBulkAll r
def uptoBulkEntries {H : Type} : List (Lit × DataW H) → Nat
  | [] => 0
  | x :: r => uptoBulkEntry x + uptoBulkEntries r
def uptoBulkEntry {H : Type} : Lit × DataW H → Nat
  | (.string bytes, d) => bytes.length + uptoBulk d + 1
  | (_, d) => uptoBulk d + 1
 end
def uptoSmall : (H : Type) → List (DataW H) → Bool := fun _ ds => decide (uptoBulkAll ds ≤ 1048576)
def OpenSpec.upto (s : _root_.Go.ChangeSpec) : _root_.Go.OpenSpec := { _root_.Go.OpenSpec.ofChange s with cond := some uptoSmall }

/-- 'quadratlaw06.RootPlays', WHERE WHAT IT READS IS OF BULK AT MOST 1048576: true; the input reads as it did. -/
def rootPlaysUptoRow : OpenClaim := { program := "ytkebbjodkhjbmaagreat", sum := "9f74df1fab446e77257af1866164387e607d29aef2cc3a84057bddcf1cb53866", func := "quadrat/quadratlaw06.RootPlays", spec := "rootPlays", unfollowed := true, recurses := true, apart := false, narrowed := true }
def RootPlaysUptoSaid : Prop := rootPlaysUptoRow.holds Tryz.pinned (OpenSpec.upto rootPlaysSpec)

/-- 'quadratlaw07.FolderForms', WHERE WHAT IT READS IS OF BULK AT MOST 1048576: true; the input reads as it did. -/
def folderFormsUptoRow : OpenClaim := { program := "ytkebbjodkhjbmaagreat", sum := "9f74df1fab446e77257af1866164387e607d29aef2cc3a84057bddcf1cb53866", func := "quadrat/quadratlaw07.FolderForms", spec := "folderForms", unfollowed := true, recurses := true, apart := false, narrowed := true }
def FolderFormsUptoSaid : Prop := folderFormsUptoRow.holds Tryz.pinned (OpenSpec.upto folderFormsSpec)

/-- 'quadratlaw07.FolderPlays', WHERE WHAT IT READS IS OF BULK AT MOST 1048576: true; the input reads as it did. -/
def folderPlaysUptoRow : OpenClaim := { program := "ytkebbjodkhjbmaagreat", sum := "9f74df1fab446e77257af1866164387e607d29aef2cc3a84057bddcf1cb53866", func := "quadrat/quadratlaw07.FolderPlays", spec := "folderPlays", unfollowed := true, recurses := true, apart := false, narrowed := true }
def FolderPlaysUptoSaid : Prop := folderPlaysUptoRow.holds Tryz.pinned (OpenSpec.upto folderPlaysSpec)

/-- 'quadratlaw07.FolderNames', WHERE WHAT IT READS IS OF BULK AT MOST 1048576: true; the input reads as it did. -/
def folderNamesUptoRow : OpenClaim := { program := "ytkebbjodkhjbmaagreat", sum := "9f74df1fab446e77257af1866164387e607d29aef2cc3a84057bddcf1cb53866", func := "quadrat/quadratlaw07.FolderNames", spec := "folderNames", unfollowed := true, recurses := true, apart := false, narrowed := true }
def FolderNamesUptoSaid : Prop := folderNamesUptoRow.holds Tryz.pinned (OpenSpec.upto folderNamesSpec)

/-- 'quadratlaw07.FolderBack', WHERE WHAT IT READS IS OF BULK AT MOST 1048576: true; the input reads as it did. -/
def folderBackUptoRow : OpenClaim := { program := "ytkebbjodkhjbmaagreat", sum := "9f74df1fab446e77257af1866164387e607d29aef2cc3a84057bddcf1cb53866", func := "quadrat/quadratlaw07.FolderBack", spec := "folderBack", unfollowed := true, recurses := true, apart := false, narrowed := true }
def FolderBackUptoSaid : Prop := folderBackUptoRow.holds Tryz.pinned (OpenSpec.upto folderBackSpec)

/-- 'quadratlaw07.FolderCrash', WHERE WHAT IT READS IS OF BULK AT MOST 1048576: true; the input reads as it did. -/
def folderCrashUptoRow : OpenClaim := { program := "ytkebbjodkhjbmaagreat", sum := "9f74df1fab446e77257af1866164387e607d29aef2cc3a84057bddcf1cb53866", func := "quadrat/quadratlaw07.FolderCrash", spec := "folderCrash", unfollowed := true, recurses := true, apart := false, narrowed := true }
def FolderCrashUptoSaid : Prop := folderCrashUptoRow.holds Tryz.pinned (OpenSpec.upto folderCrashSpec)

/-- 'quadratlaw07.FolderPut', WHERE WHAT IT READS IS OF BULK AT MOST 1048576: true; the input reads as it did. -/
def folderPutUptoRow : OpenClaim := { program := "ytkebbjodkhjbmaagreat", sum := "9f74df1fab446e77257af1866164387e607d29aef2cc3a84057bddcf1cb53866", func := "quadrat/quadratlaw07.FolderPut", spec := "folderPut", unfollowed := true, recurses := true, apart := false, narrowed := true }
def FolderPutUptoSaid : Prop := folderPutUptoRow.holds Tryz.pinned (OpenSpec.upto folderPutSpec)

end Rows
end Go.Proofs.YtkebbjodkhjbmaaGreat

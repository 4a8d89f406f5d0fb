/-
  DERIVED. GIVEN WITH THE SEED: THE CARDS: each row of YtlmdijijlbmddaaDoorRows.lean that lists a variable, with what it lists TIED to the program's text (the seventh form; the later family's looks); each row that meets fmt, with fmt's text TOLD by the authors' own Lean function (tested against real Go, not proved from fmt's source: count such statements apart). THE CARD IS WHAT COUNTS. Prove the row's statement (the work); the ties are given (YtlmdijijlbmddaaDoorTie.lean); close each card by the builder's one call (the guide's Derived/Test/ToyasCard.lean, 'card_holds'). Laid BY PROGRAM, IN A SANDBOX (cutbox-door.mjs). By AI agents, Wed Nov 11 2026. No macro, syntax, notation, axiom, sorry.
-/
import Derived.Test.YtlmdijijlbmddaaDoorRows
import GoSem.ClaimSeven
namespace Go.Proofs.YtlmdijijlbmddaaDoor
namespace Rows

/-- THE TIED CARD OF 'quadratlaw11.ArrayRound'. -/
def arrayRoundCard : Claim7 := { stood := { row := arrayRoundRow, standIns := [], harness := (true, "6b44bb054ad7ce74a55cc04ae8cecf319ab76587b7ece743b4b4ff103a9a1659"), looks := false }, kinds := [], alts := [], laidByText := true, laidKinds := [.data, .data, .data], laidTests := true, laidLooks := .later }
def ArrayRoundCardSaid : Prop := Claim7.holds Tryd.pinned (.plain (OpenSpec.ofChange arrayRoundSpec)) arrayRoundCard

/-- THE SECOND FORM's CARD OF 'quadratlaw11.ArrayRound'. -/
def arrayRoundUptoCard : Claim7 := { stood := { row := arrayRoundUptoRow, standIns := [], harness := (true, "6b44bb054ad7ce74a55cc04ae8cecf319ab76587b7ece743b4b4ff103a9a1659"), looks := false }, kinds := [], alts := [], laidByText := true, laidKinds := [.data, .data, .data], laidTests := true, laidLooks := .later }
def ArrayRoundUptoCardSaid : Prop := Claim7.holds Tryd.pinned (.plain (OpenSpec.upto arrayRoundSpec)) arrayRoundUptoCard
end Rows
end Go.Proofs.YtlmdijijlbmddaaDoor

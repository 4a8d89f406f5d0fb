/-
  DERIVED. GIVEN WITH THE SEED: THE CARDS: each row of YtiiapljjopcabaaDoorRows.lean that lists a variable, with what it lists TIED to the program's text (the seventh form; the later family's looks); each row that meets fmt, with fmt's text TOLD by the authors' own Lean function (tested against real Go, not proved from fmt's source: count such statements apart). THE CARD IS WHAT COUNTS. Prove the row's statement (the work); the ties are given (YtiiapljjopcabaaDoorTie.lean); close each card by the builder's one call (the guide's Derived/Test/ToyasCard.lean, 'card_holds'). Laid BY PROGRAM, IN A SANDBOX (cutbox-door.mjs). By AI agents, Wed Nov 11 2026. No macro, syntax, notation, axiom, sorry.
-/
import Derived.Test.YtiiapljjopcabaaDoorRows
import GoSem.ClaimSeven
namespace Go.Proofs.YtiiapljjopcabaaDoor
namespace Rows

/-- THE TIED CARD OF 'quadratlaw11.ArrayNames'. -/
def arrayNamesCard : Claim7 := { stood := { row := arrayNamesRow, standIns := [], harness := (true, "1e6514b30245d3294bd60aec1ecbcd4b75d21c083a47187763a83a7d8ef97f8d"), looks := false }, kinds := [], alts := [], laidByText := true, laidKinds := [.data, .data, .data], laidTests := true, laidLooks := .later }
def ArrayNamesCardSaid : Prop := Claim7.holds Tryd.pinned (.plain (OpenSpec.ofChange arrayNamesSpec)) arrayNamesCard

/-- THE TIED CARD OF 'quadratlaw11.ArrayRound'. -/
def arrayRoundCard : Claim7 := { stood := { row := arrayRoundRow, standIns := [], harness := (true, "1e6514b30245d3294bd60aec1ecbcd4b75d21c083a47187763a83a7d8ef97f8d"), looks := false }, kinds := [], alts := [], laidByText := true, laidKinds := [.data, .data, .data], laidTests := true, laidLooks := .later }
def ArrayRoundCardSaid : Prop := Claim7.holds Tryd.pinned (.plain (OpenSpec.ofChange arrayRoundSpec)) arrayRoundCard

/-- THE TIED CARD OF 'quadratlaw11.ArrayTexts'. -/
def arrayTextsCard : Claim7 := { stood := { row := arrayTextsRow, standIns := [], harness := (true, "1e6514b30245d3294bd60aec1ecbcd4b75d21c083a47187763a83a7d8ef97f8d"), looks := false }, kinds := [], alts := [], laidByText := true, laidKinds := [.data, .data, .data], laidTests := true, laidLooks := .later }
def ArrayTextsCardSaid : Prop := Claim7.holds Tryd.pinned (.plain (OpenSpec.ofChange arrayTextsSpec)) arrayTextsCard

/-- THE TIED CARD OF 'quadratlaw11.ArrayMade'. -/
def arrayMadeCard : Claim7 := { stood := { row := arrayMadeRow, standIns := [], harness := (true, "1e6514b30245d3294bd60aec1ecbcd4b75d21c083a47187763a83a7d8ef97f8d"), looks := false }, kinds := [], alts := [], laidByText := true, laidKinds := [.data, .data, .data], laidTests := true, laidLooks := .later }
def ArrayMadeCardSaid : Prop := Claim7.holds Tryd.pinned (.plain (OpenSpec.ofChange arrayMadeSpec)) arrayMadeCard

/-- THE SECOND FORM's CARD OF 'quadratlaw11.ArrayNames'. -/
def arrayNamesUptoCard : Claim7 := { stood := { row := arrayNamesUptoRow, standIns := [], harness := (true, "1e6514b30245d3294bd60aec1ecbcd4b75d21c083a47187763a83a7d8ef97f8d"), looks := false }, kinds := [], alts := [], laidByText := true, laidKinds := [.data, .data, .data], laidTests := true, laidLooks := .later }
def ArrayNamesUptoCardSaid : Prop := Claim7.holds Tryd.pinned (.plain (OpenSpec.upto arrayNamesSpec)) arrayNamesUptoCard

/-- THE SECOND FORM's CARD OF 'quadratlaw11.ArrayRound'. -/
def arrayRoundUptoCard : Claim7 := { stood := { row := arrayRoundUptoRow, standIns := [], harness := (true, "1e6514b30245d3294bd60aec1ecbcd4b75d21c083a47187763a83a7d8ef97f8d"), looks := false }, kinds := [], alts := [], laidByText := true, laidKinds := [.data, .data, .data], laidTests := true, laidLooks := .later }
def ArrayRoundUptoCardSaid : Prop := Claim7.holds Tryd.pinned (.plain (OpenSpec.upto arrayRoundSpec)) arrayRoundUptoCard

/-- THE SECOND FORM's CARD OF 'quadratlaw11.ArrayTexts'. -/
def arrayTextsUptoCard : Claim7 := { stood := { row := arrayTextsUptoRow, standIns := [], harness := (true, "1e6514b30245d3294bd60aec1ecbcd4b75d21c083a47187763a83a7d8ef97f8d"), looks := false }, kinds := [], alts := [], laidByText := true, laidKinds := [.data, .data, .data], laidTests := true, laidLooks := .later }
def ArrayTextsUptoCardSaid : Prop := Claim7.holds Tryd.pinned (.plain (OpenSpec.upto arrayTextsSpec)) arrayTextsUptoCard

/-- THE SECOND FORM's CARD OF 'quadratlaw11.ArrayMade'. -/
def arrayMadeUptoCard : Claim7 := { stood := { row := arrayMadeUptoRow, standIns := [], harness := (true, "1e6514b30245d3294bd60aec1ecbcd4b75d21c083a47187763a83a7d8ef97f8d"), looks := false }, kinds := [], alts := [], laidByText := true, laidKinds := [.data, .data, .data], laidTests := true, laidLooks := .later }
def ArrayMadeUptoCardSaid : Prop := Claim7.holds Tryd.pinned (.plain (OpenSpec.upto arrayMadeSpec)) arrayMadeUptoCard
end Rows
end Go.Proofs.YtiiapljjopcabaaDoor

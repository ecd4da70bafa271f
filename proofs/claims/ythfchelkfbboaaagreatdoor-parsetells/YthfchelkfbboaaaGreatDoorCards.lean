/-
  DERIVED. GIVEN WITH THE SEED: THE CARDS: each row of YthfchelkfbboaaaGreatDoorRows.lean that lists a variable, with what it lists TIED to the program's text (the seventh form; the later family's looks); each row that meets fmt, with fmt's text TOLD by the authors' own Lean function (tested against real Go, not proved from fmt's source: count such statements apart). THE CARD IS WHAT COUNTS. Prove the row's statement (the work); the ties are given (YthfchelkfbboaaaGreatDoorTie.lean); close each card by the builder's one call (the guide's Derived/Test/ToyasCard.lean, 'card_holds'). Laid BY PROGRAM, IN A SANDBOX (cutbox-door.mjs). By AI agents, Wed Nov 11 2026. No macro, syntax, notation, axiom, sorry.
-/
import Derived.Test.YthfchelkfbboaaaGreatDoorRows
import GoSem.ClaimSeven
namespace Go.Proofs.YthfchelkfbboaaaGreatDoor
namespace Rows

/-- THE TIED CARD OF 'hayloftlaw05.ParseTells'. -/
def parseTellsCard : Claim7 := { stood := { row := parseTellsRow, standIns := [], harness := (true, "559803d73ea72840fbedaa5ba8ab91b7d5ea7e0181b392575a7ca54c53adc3b6"), looks := true }, kinds := [], alts := [], laidByText := true, laidKinds := [.data, .data, .data, .handle, .sentinel, .sentinel, .data], laidTests := true, laidLooks := .later }
def ParseTellsCardSaid : Prop := Claim7.holds Tryz.pinned (.plain (OpenSpec.ofChange parseTellsSpec)) parseTellsCard

/-- THE TIED CARD OF 'hayloftlaw05.ParseBlank'. -/
def parseBlankCard : Claim7 := { stood := { row := parseBlankRow, standIns := [], harness := (true, "559803d73ea72840fbedaa5ba8ab91b7d5ea7e0181b392575a7ca54c53adc3b6"), looks := true }, kinds := [], alts := [], laidByText := true, laidKinds := [.data, .data, .data, .handle, .sentinel, .sentinel, .data], laidTests := true, laidLooks := .later }
def ParseBlankCardSaid : Prop := Claim7.holds Tryz.pinned (.plain (OpenSpec.ofChange parseBlankSpec)) parseBlankCard

/-- THE TIED CARD OF 'hayloftlaw05.ParseOnes'. -/
def parseOnesCard : Claim7 := { stood := { row := parseOnesRow, standIns := [], harness := (true, "559803d73ea72840fbedaa5ba8ab91b7d5ea7e0181b392575a7ca54c53adc3b6"), looks := true }, kinds := [], alts := [], laidByText := true, laidKinds := [.data, .data, .data, .handle, .sentinel, .sentinel, .data], laidTests := true, laidLooks := .later }
def ParseOnesCardSaid : Prop := Claim7.holds Tryz.pinned (.plain (OpenSpec.ofChange parseOnesSpec)) parseOnesCard

/-- THE SECOND FORM's CARD OF 'hayloftlaw05.ParseTells'. -/
def parseTellsUptoCard : Claim7 := { stood := { row := parseTellsUptoRow, standIns := [], harness := (true, "559803d73ea72840fbedaa5ba8ab91b7d5ea7e0181b392575a7ca54c53adc3b6"), looks := true }, kinds := [], alts := [], laidByText := true, laidKinds := [.data, .data, .data, .handle, .sentinel, .sentinel, .data], laidTests := true, laidLooks := .later }
def ParseTellsUptoCardSaid : Prop := Claim7.holds Tryz.pinned (.plain (OpenSpec.upto parseTellsSpec)) parseTellsUptoCard

/-- THE SECOND FORM's CARD OF 'hayloftlaw05.ParseBlank'. -/
def parseBlankUptoCard : Claim7 := { stood := { row := parseBlankUptoRow, standIns := [], harness := (true, "559803d73ea72840fbedaa5ba8ab91b7d5ea7e0181b392575a7ca54c53adc3b6"), looks := true }, kinds := [], alts := [], laidByText := true, laidKinds := [.data, .data, .data, .handle, .sentinel, .sentinel, .data], laidTests := true, laidLooks := .later }
def ParseBlankUptoCardSaid : Prop := Claim7.holds Tryz.pinned (.plain (OpenSpec.upto parseBlankSpec)) parseBlankUptoCard

/-- THE SECOND FORM's CARD OF 'hayloftlaw05.ParseOnes'. -/
def parseOnesUptoCard : Claim7 := { stood := { row := parseOnesUptoRow, standIns := [], harness := (true, "559803d73ea72840fbedaa5ba8ab91b7d5ea7e0181b392575a7ca54c53adc3b6"), looks := true }, kinds := [], alts := [], laidByText := true, laidKinds := [.data, .data, .data, .handle, .sentinel, .sentinel, .data], laidTests := true, laidLooks := .later }
def ParseOnesUptoCardSaid : Prop := Claim7.holds Tryz.pinned (.plain (OpenSpec.upto parseOnesSpec)) parseOnesUptoCard
end Rows
end Go.Proofs.YthfchelkfbboaaaGreatDoor

/-
  DERIVED. GIVEN WITH THE SEED: THE CARDS: each row of YtldfjlepbbmhnaaDoorRows.lean that lists a variable, with what it lists TIED to the program's text (the seventh form; the later family's looks); each row that meets fmt, with fmt's text TOLD by the authors' own Lean function (tested against real Go, not proved from fmt's source: count such statements apart). THE CARD IS WHAT COUNTS. Prove the row's statement (the work); the ties are given (YtldfjlepbbmhnaaDoorTie.lean); close each card by the builder's one call (the guide's Derived/Test/ToyasCard.lean, 'card_holds'). Laid BY PROGRAM, IN A SANDBOX (cutbox-door.mjs). By AI agents, Wed Nov 11 2026. No macro, syntax, notation, axiom, sorry.
-/
import Derived.Test.YtldfjlepbbmhnaaDoorRows
import GoSem.ClaimSeven
namespace Go.Proofs.YtldfjlepbbmhnaaDoor
namespace Rows

/-- THE TIED CARD OF 'hayloftlaw22.PipePlays'. -/
def pipePlaysCard : Claim7 := { stood := { row := pipePlaysRow, standIns := [], harness := (true, "9c501417bfd3c41693932ee0abac4e986852cc4fce5346b0771cb3e051ecb901"), looks := true }, kinds := [], alts := [], laidByText := true, laidKinds := [.wider, .wider, .wider, .wider], laidTests := true, laidLooks := .later }
def PipePlaysCardSaid : Prop := Claim7.holds Tryd.pinned (.plain (OpenSpec.ofChange pipePlaysSpec)) pipePlaysCard

/-- THE TIED CARD OF 'hayloftlaw22.PipeParts'. -/
def pipePartsCard : Claim7 := { stood := { row := pipePartsRow, standIns := [], harness := (true, "9c501417bfd3c41693932ee0abac4e986852cc4fce5346b0771cb3e051ecb901"), looks := true }, kinds := [], alts := [], laidByText := true, laidKinds := [.wider, .wider, .wider, .wider], laidTests := true, laidLooks := .later }
def PipePartsCardSaid : Prop := Claim7.holds Tryd.pinned (.plain (OpenSpec.ofChange pipePartsSpec)) pipePartsCard

/-- THE TIED CARD OF 'hayloftlaw22.PipeLands'. -/
def pipeLandsCard : Claim7 := { stood := { row := pipeLandsRow, standIns := [], harness := (true, "9c501417bfd3c41693932ee0abac4e986852cc4fce5346b0771cb3e051ecb901"), looks := true }, kinds := [], alts := [], laidByText := true, laidKinds := [.wider, .wider, .wider, .wider], laidTests := true, laidLooks := .later }
def PipeLandsCardSaid : Prop := Claim7.holds Tryd.pinned (.plain (OpenSpec.ofChange pipeLandsSpec)) pipeLandsCard

/-- THE TIED CARD OF 'hayloftlaw22.PipeNil'. -/
def pipeNilCard : Claim7 := { stood := { row := pipeNilRow, standIns := [], harness := (true, "9c501417bfd3c41693932ee0abac4e986852cc4fce5346b0771cb3e051ecb901"), looks := true }, kinds := [], alts := [], laidByText := true, laidKinds := [.wider, .wider, .wider, .wider], laidTests := true, laidLooks := .later }
def PipeNilCardSaid : Prop := Claim7.holds Tryd.pinned (.plain (OpenSpec.ofChange pipeNilSpec)) pipeNilCard

/-- THE SECOND FORM's CARD OF 'hayloftlaw22.PipePlays'. -/
def pipePlaysUptoCard : Claim7 := { stood := { row := pipePlaysUptoRow, standIns := [], harness := (true, "9c501417bfd3c41693932ee0abac4e986852cc4fce5346b0771cb3e051ecb901"), looks := true }, kinds := [], alts := [], laidByText := true, laidKinds := [.wider, .wider, .wider, .wider], laidTests := true, laidLooks := .later }
def PipePlaysUptoCardSaid : Prop := Claim7.holds Tryd.pinned (.plain (OpenSpec.upto pipePlaysSpec)) pipePlaysUptoCard

/-- THE SECOND FORM's CARD OF 'hayloftlaw22.PipeParts'. -/
def pipePartsUptoCard : Claim7 := { stood := { row := pipePartsUptoRow, standIns := [], harness := (true, "9c501417bfd3c41693932ee0abac4e986852cc4fce5346b0771cb3e051ecb901"), looks := true }, kinds := [], alts := [], laidByText := true, laidKinds := [.wider, .wider, .wider, .wider], laidTests := true, laidLooks := .later }
def PipePartsUptoCardSaid : Prop := Claim7.holds Tryd.pinned (.plain (OpenSpec.upto pipePartsSpec)) pipePartsUptoCard

/-- THE SECOND FORM's CARD OF 'hayloftlaw22.PipeLands'. -/
def pipeLandsUptoCard : Claim7 := { stood := { row := pipeLandsUptoRow, standIns := [], harness := (true, "9c501417bfd3c41693932ee0abac4e986852cc4fce5346b0771cb3e051ecb901"), looks := true }, kinds := [], alts := [], laidByText := true, laidKinds := [.wider, .wider, .wider, .wider], laidTests := true, laidLooks := .later }
def PipeLandsUptoCardSaid : Prop := Claim7.holds Tryd.pinned (.plain (OpenSpec.upto pipeLandsSpec)) pipeLandsUptoCard

/-- THE SECOND FORM's CARD OF 'hayloftlaw22.PipeNil'. -/
def pipeNilUptoCard : Claim7 := { stood := { row := pipeNilUptoRow, standIns := [], harness := (true, "9c501417bfd3c41693932ee0abac4e986852cc4fce5346b0771cb3e051ecb901"), looks := true }, kinds := [], alts := [], laidByText := true, laidKinds := [.wider, .wider, .wider, .wider], laidTests := true, laidLooks := .later }
def PipeNilUptoCardSaid : Prop := Claim7.holds Tryd.pinned (.plain (OpenSpec.upto pipeNilSpec)) pipeNilUptoCard
end Rows
end Go.Proofs.YtldfjlepbbmhnaaDoor

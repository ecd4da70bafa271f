/-
  DERIVED. GIVEN WITH THE SEED: THE CARDS: each row of YteccifanbgcakaaGreatDoorRows.lean that lists a variable, with what it lists TIED to the program's text (the seventh form; the later family's looks); each row that meets fmt, with fmt's text TOLD by the authors' own Lean function (tested against real Go, not proved from fmt's source: count such statements apart). THE CARD IS WHAT COUNTS. Prove the row's statement (the work); the ties are given (YteccifanbgcakaaGreatDoorTie.lean); close each card by the builder's one call (the guide's Derived/Test/ToyasCard.lean, 'card_holds'). Laid BY PROGRAM, IN A SANDBOX (cutbox-door.mjs). By AI agents, Wed Nov 11 2026. No macro, syntax, notation, axiom, sorry.
-/
import Derived.Test.YteccifanbgcakaaGreatDoorRows
import GoSem.ClaimSeven
namespace Go.Proofs.YteccifanbgcakaaGreatDoor
namespace Rows

/-- THE TIED CARD OF 'hayloftlaw16.ModuloChecks'. -/
def moduloChecksCard : Claim7 := { stood := { row := moduloChecksRow, standIns := [], harness := (true, "01a04b3bac05fbd2a0e2d422390aa4e3b8d69e2e8dcfef776e2d3c06da0fc493"), looks := false }, kinds := [], alts := [], laidByText := true, laidKinds := [.wider, .wider, .wider, .wider], laidTests := true, laidLooks := .later }
def ModuloChecksCardSaid : Prop := Claim7.holds Tryz.pinned (.plain (OpenSpec.ofChange moduloChecksSpec)) moduloChecksCard

/-- THE TIED CARD OF 'hayloftlaw16.ModuloFinds'. -/
def moduloFindsCard : Claim7 := { stood := { row := moduloFindsRow, standIns := [], harness := (true, "01a04b3bac05fbd2a0e2d422390aa4e3b8d69e2e8dcfef776e2d3c06da0fc493"), looks := false }, kinds := [], alts := [], laidByText := true, laidKinds := [.wider, .wider, .wider, .wider], laidTests := true, laidLooks := .later }
def ModuloFindsCardSaid : Prop := Claim7.holds Tryz.pinned (.plain (OpenSpec.ofChange moduloFindsSpec)) moduloFindsCard

/-- THE TIED CARD OF 'hayloftlaw16.ModuloThere'. -/
def moduloThereCard : Claim7 := { stood := { row := moduloThereRow, standIns := [], harness := (true, "01a04b3bac05fbd2a0e2d422390aa4e3b8d69e2e8dcfef776e2d3c06da0fc493"), looks := false }, kinds := [], alts := [], laidByText := true, laidKinds := [.wider, .wider, .wider, .wider], laidTests := true, laidLooks := .later }
def ModuloThereCardSaid : Prop := Claim7.holds Tryz.pinned (.plain (OpenSpec.ofChange moduloThereSpec)) moduloThereCard

/-- THE TIED CARD OF 'hayloftlaw16.ModuloRounds'. -/
def moduloRoundsCard : Claim7 := { stood := { row := moduloRoundsRow, standIns := [], harness := (true, "01a04b3bac05fbd2a0e2d422390aa4e3b8d69e2e8dcfef776e2d3c06da0fc493"), looks := false }, kinds := [], alts := [], laidByText := true, laidKinds := [.wider, .wider, .wider, .wider], laidTests := true, laidLooks := .later }
def ModuloRoundsCardSaid : Prop := Claim7.holds Tryz.pinned (.plain (OpenSpec.ofChange moduloRoundsSpec)) moduloRoundsCard

/-- THE TIED CARD OF 'hayloftlaw16.ModuloLeast'. -/
def moduloLeastCard : Claim7 := { stood := { row := moduloLeastRow, standIns := [], harness := (true, "01a04b3bac05fbd2a0e2d422390aa4e3b8d69e2e8dcfef776e2d3c06da0fc493"), looks := false }, kinds := [], alts := [], laidByText := true, laidKinds := [.wider, .wider, .wider, .wider], laidTests := true, laidLooks := .later }
def ModuloLeastCardSaid : Prop := Claim7.holds Tryz.pinned (.plain (OpenSpec.ofChange moduloLeastSpec)) moduloLeastCard

/-- THE SECOND FORM's CARD OF 'hayloftlaw16.ModuloChecks'. -/
def moduloChecksUptoCard : Claim7 := { stood := { row := moduloChecksUptoRow, standIns := [], harness := (true, "01a04b3bac05fbd2a0e2d422390aa4e3b8d69e2e8dcfef776e2d3c06da0fc493"), looks := false }, kinds := [], alts := [], laidByText := true, laidKinds := [.wider, .wider, .wider, .wider], laidTests := true, laidLooks := .later }
def ModuloChecksUptoCardSaid : Prop := Claim7.holds Tryz.pinned (.plain (OpenSpec.upto moduloChecksSpec)) moduloChecksUptoCard

/-- THE SECOND FORM's CARD OF 'hayloftlaw16.ModuloFinds'. -/
def moduloFindsUptoCard : Claim7 := { stood := { row := moduloFindsUptoRow, standIns := [], harness := (true, "01a04b3bac05fbd2a0e2d422390aa4e3b8d69e2e8dcfef776e2d3c06da0fc493"), looks := false }, kinds := [], alts := [], laidByText := true, laidKinds := [.wider, .wider, .wider, .wider], laidTests := true, laidLooks := .later }
def ModuloFindsUptoCardSaid : Prop := Claim7.holds Tryz.pinned (.plain (OpenSpec.upto moduloFindsSpec)) moduloFindsUptoCard

/-- THE SECOND FORM's CARD OF 'hayloftlaw16.ModuloThere'. -/
def moduloThereUptoCard : Claim7 := { stood := { row := moduloThereUptoRow, standIns := [], harness := (true, "01a04b3bac05fbd2a0e2d422390aa4e3b8d69e2e8dcfef776e2d3c06da0fc493"), looks := false }, kinds := [], alts := [], laidByText := true, laidKinds := [.wider, .wider, .wider, .wider], laidTests := true, laidLooks := .later }
def ModuloThereUptoCardSaid : Prop := Claim7.holds Tryz.pinned (.plain (OpenSpec.upto moduloThereSpec)) moduloThereUptoCard

/-- THE SECOND FORM's CARD OF 'hayloftlaw16.ModuloRounds'. -/
def moduloRoundsUptoCard : Claim7 := { stood := { row := moduloRoundsUptoRow, standIns := [], harness := (true, "01a04b3bac05fbd2a0e2d422390aa4e3b8d69e2e8dcfef776e2d3c06da0fc493"), looks := false }, kinds := [], alts := [], laidByText := true, laidKinds := [.wider, .wider, .wider, .wider], laidTests := true, laidLooks := .later }
def ModuloRoundsUptoCardSaid : Prop := Claim7.holds Tryz.pinned (.plain (OpenSpec.upto moduloRoundsSpec)) moduloRoundsUptoCard

/-- THE SECOND FORM's CARD OF 'hayloftlaw16.ModuloLeast'. -/
def moduloLeastUptoCard : Claim7 := { stood := { row := moduloLeastUptoRow, standIns := [], harness := (true, "01a04b3bac05fbd2a0e2d422390aa4e3b8d69e2e8dcfef776e2d3c06da0fc493"), looks := false }, kinds := [], alts := [], laidByText := true, laidKinds := [.wider, .wider, .wider, .wider], laidTests := true, laidLooks := .later }
def ModuloLeastUptoCardSaid : Prop := Claim7.holds Tryz.pinned (.plain (OpenSpec.upto moduloLeastSpec)) moduloLeastUptoCard
end Rows
end Go.Proofs.YteccifanbgcakaaGreatDoor

/-
  DERIVED. GIVEN WITH THE SEED: THE CARDS: each row of YtpdaknbmcpmhjaaGreatDoorRows.lean that lists a variable, with what it lists TIED to the program's text (the seventh form; the later family's looks); each row that meets fmt, with fmt's text TOLD by the authors' own Lean function (tested against real Go, not proved from fmt's source: count such statements apart). THE CARD IS WHAT COUNTS. Prove the row's statement (the work); the ties are given (YtpdaknbmcpmhjaaGreatDoorTie.lean); close each card by the builder's one call (the guide's Derived/Test/ToyasCard.lean, 'card_holds'). Laid BY PROGRAM, IN A SANDBOX (cutbox-door.mjs). By AI agents, Wed Nov 11 2026. No macro, syntax, notation, axiom, sorry.
-/
import Derived.Test.YtpdaknbmcpmhjaaGreatDoorRows
import GoSem.ClaimSeven
namespace Go.Proofs.YtpdaknbmcpmhjaaGreatDoor
namespace Rows

/-- THE TIED CARD OF 'hayloftlaw20.LayoutBlocks'. -/
def layoutBlocksCard : Claim7 := { stood := { row := layoutBlocksRow, standIns := [], harness := (true, "66b123407f217b2ba3d244527f7a9966d1dfdfc5df4bf92c8a439ddca2a81836"), looks := false }, kinds := [], alts := [], laidByText := true, laidKinds := [.wider, .wider, .wider, .wider, .data], laidTests := true, laidLooks := .later }
def LayoutBlocksCardSaid : Prop := Claim7.holds Tryz.pinned (.plain (OpenSpec.ofChange layoutBlocksSpec)) layoutBlocksCard

/-- THE TIED CARD OF 'hayloftlaw20.LayoutLoops'. -/
def layoutLoopsCard : Claim7 := { stood := { row := layoutLoopsRow, standIns := [], harness := (true, "66b123407f217b2ba3d244527f7a9966d1dfdfc5df4bf92c8a439ddca2a81836"), looks := false }, kinds := [], alts := [], laidByText := true, laidKinds := [.wider, .wider, .wider, .wider, .data], laidTests := true, laidLooks := .later }
def LayoutLoopsCardSaid : Prop := Claim7.holds Tryz.pinned (.plain (OpenSpec.ofChange layoutLoopsSpec)) layoutLoopsCard

/-- THE TIED CARD OF 'hayloftlaw20.LayoutLong'. -/
def layoutLongCard : Claim7 := { stood := { row := layoutLongRow, standIns := [], harness := (true, "66b123407f217b2ba3d244527f7a9966d1dfdfc5df4bf92c8a439ddca2a81836"), looks := false }, kinds := [], alts := [], laidByText := true, laidKinds := [.wider, .wider, .wider, .wider, .data], laidTests := true, laidLooks := .later }
def LayoutLongCardSaid : Prop := Claim7.holds Tryz.pinned (.plain (OpenSpec.ofChange layoutLongSpec)) layoutLongCard

/-- THE TIED CARD OF 'hayloftlaw20.LayoutFair'. -/
def layoutFairCard : Claim7 := { stood := { row := layoutFairRow, standIns := [], harness := (true, "66b123407f217b2ba3d244527f7a9966d1dfdfc5df4bf92c8a439ddca2a81836"), looks := false }, kinds := [], alts := [], laidByText := true, laidKinds := [.wider, .wider, .wider, .wider, .data], laidTests := true, laidLooks := .later }
def LayoutFairCardSaid : Prop := Claim7.holds Tryz.pinned (.plain (OpenSpec.ofChange layoutFairSpec)) layoutFairCard

/-- THE TIED CARD OF 'hayloftlaw21.PackTells'. -/
def packTellsCard : Claim7 := { stood := { row := packTellsRow, standIns := [], harness := (true, "66b123407f217b2ba3d244527f7a9966d1dfdfc5df4bf92c8a439ddca2a81836"), looks := false }, kinds := [], alts := [], laidByText := true, laidKinds := [.wider, .wider, .wider, .wider, .data], laidTests := true, laidLooks := .later }
def PackTellsCardSaid : Prop := Claim7.holds Tryz.pinned (.plain (OpenSpec.ofChange packTellsSpec)) packTellsCard

/-- THE TIED CARD OF 'hayloftlaw21.PackNumbers'. -/
def packNumbersCard : Claim7 := { stood := { row := packNumbersRow, standIns := [], harness := (true, "66b123407f217b2ba3d244527f7a9966d1dfdfc5df4bf92c8a439ddca2a81836"), looks := false }, kinds := [], alts := [], laidByText := true, laidKinds := [.wider, .wider, .wider, .wider, .data], laidTests := true, laidLooks := .later }
def PackNumbersCardSaid : Prop := Claim7.holds Tryz.pinned (.plain (OpenSpec.ofChange packNumbersSpec)) packNumbersCard

/-- THE SECOND FORM's CARD OF 'hayloftlaw20.LayoutBlocks'. -/
def layoutBlocksUptoCard : Claim7 := { stood := { row := layoutBlocksUptoRow, standIns := [], harness := (true, "66b123407f217b2ba3d244527f7a9966d1dfdfc5df4bf92c8a439ddca2a81836"), looks := false }, kinds := [], alts := [], laidByText := true, laidKinds := [.wider, .wider, .wider, .wider, .data], laidTests := true, laidLooks := .later }
def LayoutBlocksUptoCardSaid : Prop := Claim7.holds Tryz.pinned (.plain (OpenSpec.upto layoutBlocksSpec)) layoutBlocksUptoCard

/-- THE SECOND FORM's CARD OF 'hayloftlaw20.LayoutLoops'. -/
def layoutLoopsUptoCard : Claim7 := { stood := { row := layoutLoopsUptoRow, standIns := [], harness := (true, "66b123407f217b2ba3d244527f7a9966d1dfdfc5df4bf92c8a439ddca2a81836"), looks := false }, kinds := [], alts := [], laidByText := true, laidKinds := [.wider, .wider, .wider, .wider, .data], laidTests := true, laidLooks := .later }
def LayoutLoopsUptoCardSaid : Prop := Claim7.holds Tryz.pinned (.plain (OpenSpec.upto layoutLoopsSpec)) layoutLoopsUptoCard

/-- THE SECOND FORM's CARD OF 'hayloftlaw20.LayoutLong'. -/
def layoutLongUptoCard : Claim7 := { stood := { row := layoutLongUptoRow, standIns := [], harness := (true, "66b123407f217b2ba3d244527f7a9966d1dfdfc5df4bf92c8a439ddca2a81836"), looks := false }, kinds := [], alts := [], laidByText := true, laidKinds := [.wider, .wider, .wider, .wider, .data], laidTests := true, laidLooks := .later }
def LayoutLongUptoCardSaid : Prop := Claim7.holds Tryz.pinned (.plain (OpenSpec.upto layoutLongSpec)) layoutLongUptoCard

/-- THE SECOND FORM's CARD OF 'hayloftlaw20.LayoutFair'. -/
def layoutFairUptoCard : Claim7 := { stood := { row := layoutFairUptoRow, standIns := [], harness := (true, "66b123407f217b2ba3d244527f7a9966d1dfdfc5df4bf92c8a439ddca2a81836"), looks := false }, kinds := [], alts := [], laidByText := true, laidKinds := [.wider, .wider, .wider, .wider, .data], laidTests := true, laidLooks := .later }
def LayoutFairUptoCardSaid : Prop := Claim7.holds Tryz.pinned (.plain (OpenSpec.upto layoutFairSpec)) layoutFairUptoCard

/-- THE SECOND FORM's CARD OF 'hayloftlaw21.PackTells'. -/
def packTellsUptoCard : Claim7 := { stood := { row := packTellsUptoRow, standIns := [], harness := (true, "66b123407f217b2ba3d244527f7a9966d1dfdfc5df4bf92c8a439ddca2a81836"), looks := false }, kinds := [], alts := [], laidByText := true, laidKinds := [.wider, .wider, .wider, .wider, .data], laidTests := true, laidLooks := .later }
def PackTellsUptoCardSaid : Prop := Claim7.holds Tryz.pinned (.plain (OpenSpec.upto packTellsSpec)) packTellsUptoCard

/-- THE SECOND FORM's CARD OF 'hayloftlaw21.PackNumbers'. -/
def packNumbersUptoCard : Claim7 := { stood := { row := packNumbersUptoRow, standIns := [], harness := (true, "66b123407f217b2ba3d244527f7a9966d1dfdfc5df4bf92c8a439ddca2a81836"), looks := false }, kinds := [], alts := [], laidByText := true, laidKinds := [.wider, .wider, .wider, .wider, .data], laidTests := true, laidLooks := .later }
def PackNumbersUptoCardSaid : Prop := Claim7.holds Tryz.pinned (.plain (OpenSpec.upto packNumbersSpec)) packNumbersUptoCard
end Rows
end Go.Proofs.YtpdaknbmcpmhjaaGreatDoor

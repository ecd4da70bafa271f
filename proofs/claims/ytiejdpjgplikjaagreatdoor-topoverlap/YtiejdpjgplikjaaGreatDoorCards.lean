/-
  DERIVED. GIVEN WITH THE SEED: THE CARDS: each row of YtiejdpjgplikjaaGreatDoorRows.lean that lists a variable, with what it lists TIED to the program's text (the seventh form; the later family's looks); each row that meets fmt, with fmt's text TOLD by the authors' own Lean function (tested against real Go, not proved from fmt's source: count such statements apart). THE CARD IS WHAT COUNTS. Prove the row's statement (the work); the ties are given (YtiejdpjgplikjaaGreatDoorTie.lean); close each card by the builder's one call (the guide's Derived/Test/ToyasCard.lean, 'card_holds'). Laid BY PROGRAM, IN A SANDBOX (cutbox-door.mjs). By AI agents, Wed Nov 11 2026. No macro, syntax, notation, axiom, sorry.
-/
import Derived.Test.YtiejdpjgplikjaaGreatDoorRows
import GoSem.ClaimSeven
namespace Go.Proofs.YtiejdpjgplikjaaGreatDoor
namespace Rows

/-- THE TIED CARD OF 'hayloftlaw16.ModuloFinds'. -/
def moduloFindsCard : Claim7 := { stood := { row := moduloFindsRow, standIns := [], harness := (true, "894b57c6d0bd219abb081a01f74be85caa98d16512bc31ffa1e1fad7dcb77902"), looks := false }, kinds := [], alts := [], laidByText := true, laidKinds := [.wider, .wider, .wider, .wider], laidTests := true, laidLooks := .later }
def ModuloFindsCardSaid : Prop := Claim7.holds Tryz.pinned (.plain (OpenSpec.ofChange moduloFindsSpec)) moduloFindsCard

/-- THE TIED CARD OF 'haylofttop.TopOverlap'. -/
def topOverlapCard : Claim7 := { stood := { row := topOverlapRow, standIns := [], harness := (true, "894b57c6d0bd219abb081a01f74be85caa98d16512bc31ffa1e1fad7dcb77902"), looks := false }, kinds := [], alts := [], laidByText := true, laidKinds := [.wider, .wider, .wider, .wider], laidTests := true, laidLooks := .later }
def TopOverlapCardSaid : Prop := Claim7.holds Tryz.pinned (.plain (OpenSpec.ofChange topOverlapSpec)) topOverlapCard

/-- THE SECOND FORM's CARD OF 'hayloftlaw16.ModuloFinds'. -/
def moduloFindsUptoCard : Claim7 := { stood := { row := moduloFindsUptoRow, standIns := [], harness := (true, "894b57c6d0bd219abb081a01f74be85caa98d16512bc31ffa1e1fad7dcb77902"), looks := false }, kinds := [], alts := [], laidByText := true, laidKinds := [.wider, .wider, .wider, .wider], laidTests := true, laidLooks := .later }
def ModuloFindsUptoCardSaid : Prop := Claim7.holds Tryz.pinned (.plain (OpenSpec.upto moduloFindsSpec)) moduloFindsUptoCard

/-- THE SECOND FORM's CARD OF 'haylofttop.TopOverlap'. -/
def topOverlapUptoCard : Claim7 := { stood := { row := topOverlapUptoRow, standIns := [], harness := (true, "894b57c6d0bd219abb081a01f74be85caa98d16512bc31ffa1e1fad7dcb77902"), looks := false }, kinds := [], alts := [], laidByText := true, laidKinds := [.wider, .wider, .wider, .wider], laidTests := true, laidLooks := .later }
def TopOverlapUptoCardSaid : Prop := Claim7.holds Tryz.pinned (.plain (OpenSpec.upto topOverlapSpec)) topOverlapUptoCard
end Rows
end Go.Proofs.YtiejdpjgplikjaaGreatDoor

/-
  DERIVED. GIVEN WITH THE SEED: THE CARDS: each row of YthdpgimdakmdgaaDoorRows.lean that lists a variable, with what it lists TIED to the program's text (the seventh form; the later family's looks); each row that meets fmt, with fmt's text TOLD by the authors' own Lean function (tested against real Go, not proved from fmt's source: count such statements apart). THE CARD IS WHAT COUNTS. Prove the row's statement (the work); the ties are given (YthdpgimdakmdgaaDoorTie.lean); close each card by the builder's one call (the guide's Derived/Test/ToyasCard.lean, 'card_holds'). Laid BY PROGRAM, IN A SANDBOX (cutbox-door.mjs). By AI agents, Wed Nov 11 2026. No macro, syntax, notation, axiom, sorry.
-/
import Derived.Test.YthdpgimdakmdgaaDoorRows
import GoSem.ClaimSeven
namespace Go.Proofs.YthdpgimdakmdgaaDoor
namespace Rows

/-- THE TIED CARD OF 'hayloftlaw15.BoundsTell'. -/
def boundsTellCard : Claim7 := { stood := { row := boundsTellRow, standIns := [], harness := (true, "63c10f6e885fbb5fed7078d0b9e99c28fe114224e6d0e347a2ce98875c3d82eb"), looks := false }, kinds := [], alts := [], laidByText := true, laidKinds := [.wider, .wider, .wider, .wider], laidTests := true, laidLooks := .later }
def BoundsTellCardSaid : Prop := Claim7.holds Tryd.pinned (.plain (OpenSpec.ofChange boundsTellSpec)) boundsTellCard

/-- THE TIED CARD OF 'hayloftlaw15.BoundsMore'. -/
def boundsMoreCard : Claim7 := { stood := { row := boundsMoreRow, standIns := [], harness := (true, "63c10f6e885fbb5fed7078d0b9e99c28fe114224e6d0e347a2ce98875c3d82eb"), looks := false }, kinds := [], alts := [], laidByText := true, laidKinds := [.wider, .wider, .wider, .wider], laidTests := true, laidLooks := .later }
def BoundsMoreCardSaid : Prop := Claim7.holds Tryd.pinned (.plain (OpenSpec.ofChange boundsMoreSpec)) boundsMoreCard

/-- THE TIED CARD OF 'hayloftlaw15.BoundsRing'. -/
def boundsRingCard : Claim7 := { stood := { row := boundsRingRow, standIns := [], harness := (true, "63c10f6e885fbb5fed7078d0b9e99c28fe114224e6d0e347a2ce98875c3d82eb"), looks := false }, kinds := [], alts := [], laidByText := true, laidKinds := [.wider, .wider, .wider, .wider], laidTests := true, laidLooks := .later }
def BoundsRingCardSaid : Prop := Claim7.holds Tryd.pinned (.plain (OpenSpec.ofChange boundsRingSpec)) boundsRingCard

/-- THE SECOND FORM's CARD OF 'hayloftlaw15.BoundsTell'. -/
def boundsTellUptoCard : Claim7 := { stood := { row := boundsTellUptoRow, standIns := [], harness := (true, "63c10f6e885fbb5fed7078d0b9e99c28fe114224e6d0e347a2ce98875c3d82eb"), looks := false }, kinds := [], alts := [], laidByText := true, laidKinds := [.wider, .wider, .wider, .wider], laidTests := true, laidLooks := .later }
def BoundsTellUptoCardSaid : Prop := Claim7.holds Tryd.pinned (.plain (OpenSpec.upto boundsTellSpec)) boundsTellUptoCard

/-- THE SECOND FORM's CARD OF 'hayloftlaw15.BoundsMore'. -/
def boundsMoreUptoCard : Claim7 := { stood := { row := boundsMoreUptoRow, standIns := [], harness := (true, "63c10f6e885fbb5fed7078d0b9e99c28fe114224e6d0e347a2ce98875c3d82eb"), looks := false }, kinds := [], alts := [], laidByText := true, laidKinds := [.wider, .wider, .wider, .wider], laidTests := true, laidLooks := .later }
def BoundsMoreUptoCardSaid : Prop := Claim7.holds Tryd.pinned (.plain (OpenSpec.upto boundsMoreSpec)) boundsMoreUptoCard

/-- THE SECOND FORM's CARD OF 'hayloftlaw15.BoundsRing'. -/
def boundsRingUptoCard : Claim7 := { stood := { row := boundsRingUptoRow, standIns := [], harness := (true, "63c10f6e885fbb5fed7078d0b9e99c28fe114224e6d0e347a2ce98875c3d82eb"), looks := false }, kinds := [], alts := [], laidByText := true, laidKinds := [.wider, .wider, .wider, .wider], laidTests := true, laidLooks := .later }
def BoundsRingUptoCardSaid : Prop := Claim7.holds Tryd.pinned (.plain (OpenSpec.upto boundsRingSpec)) boundsRingUptoCard
end Rows
end Go.Proofs.YthdpgimdakmdgaaDoor

/-
  DERIVED. GIVEN WITH THE SEED: THE CARDS: each row of YtnckkhamkkaljaaGreatDoorRows.lean that lists a variable, with what it lists TIED to the program's text (the seventh form; the later family's looks); each row that meets fmt, with fmt's text TOLD by the authors' own Lean function (tested against real Go, not proved from fmt's source: count such statements apart). THE CARD IS WHAT COUNTS. Prove the row's statement (the work); the ties are given (YtnckkhamkkaljaaGreatDoorTie.lean); close each card by the builder's one call (the guide's Derived/Test/ToyasCard.lean, 'card_holds'). Laid BY PROGRAM, IN A SANDBOX (cutbox-door.mjs). By AI agents, Wed Nov 11 2026. No macro, syntax, notation, axiom, sorry.
-/
import Derived.Test.YtnckkhamkkaljaaGreatDoorRows
import GoSem.ClaimSeven
namespace Go.Proofs.YtnckkhamkkaljaaGreatDoor
namespace Rows

/-- THE TIED CARD OF 'hayloftlaw14.ListTells'. -/
def listTellsCard : Claim7 := { stood := { row := listTellsRow, standIns := [], harness := (true, "0b9b4c44cd7d9a0b8bd52900039d078a2a74727aea57d1f2b73b2fd00f010c72"), looks := false }, kinds := [], alts := [], laidByText := true, laidKinds := [.wider, .wider, .wider, .wider], laidTests := true, laidLooks := .later }
def ListTellsCardSaid : Prop := Claim7.holds Tryz.pinned (.plain (OpenSpec.ofChange listTellsSpec)) listTellsCard

/-- THE SECOND FORM's CARD OF 'hayloftlaw14.ListTells'. -/
def listTellsUptoCard : Claim7 := { stood := { row := listTellsUptoRow, standIns := [], harness := (true, "0b9b4c44cd7d9a0b8bd52900039d078a2a74727aea57d1f2b73b2fd00f010c72"), looks := false }, kinds := [], alts := [], laidByText := true, laidKinds := [.wider, .wider, .wider, .wider], laidTests := true, laidLooks := .later }
def ListTellsUptoCardSaid : Prop := Claim7.holds Tryz.pinned (.plain (OpenSpec.upto listTellsSpec)) listTellsUptoCard
end Rows
end Go.Proofs.YtnckkhamkkaljaaGreatDoor

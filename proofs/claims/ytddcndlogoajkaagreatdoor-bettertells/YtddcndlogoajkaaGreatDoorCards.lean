/-
  DERIVED. GIVEN WITH THE SEED: THE CARDS: each row of YtddcndlogoajkaaGreatDoorRows.lean that lists a variable, with what it lists TIED to the program's text (the seventh form; the later family's looks); each row that meets fmt, with fmt's text TOLD by the authors' own Lean function (tested against real Go, not proved from fmt's source: count such statements apart). THE CARD IS WHAT COUNTS. Prove the row's statement (the work); the ties are given (YtddcndlogoajkaaGreatDoorTie.lean); close each card by the builder's one call (the guide's Derived/Test/ToyasCard.lean, 'card_holds'). Laid BY PROGRAM, IN A SANDBOX (cutbox-door.mjs). By AI agents, Wed Nov 11 2026. No macro, syntax, notation, axiom, sorry.
-/
import Derived.Test.YtddcndlogoajkaaGreatDoorRows
import GoSem.ClaimSeven
namespace Go.Proofs.YtddcndlogoajkaaGreatDoor
namespace Rows

/-- THE TIED CARD OF 'hayloftlaw25.BetterTells'. -/
def betterTellsCard : Claim7 := { stood := { row := betterTellsRow, standIns := [], harness := (true, "838ab0aef871a6fd431863c5258b5d44818a043eee07193a9627945464a524ec"), looks := true }, kinds := [], alts := [], laidByText := true, laidKinds := [.data], laidTests := true, laidLooks := .later }
def BetterTellsCardSaid : Prop := Claim7.holds Tryz.pinned (.plain (OpenSpec.ofChange betterTellsSpec)) betterTellsCard

/-- THE TIED CARD OF 'hayloftlaw25.BetterSame'. -/
def betterSameCard : Claim7 := { stood := { row := betterSameRow, standIns := [], harness := (true, "838ab0aef871a6fd431863c5258b5d44818a043eee07193a9627945464a524ec"), looks := true }, kinds := [], alts := [], laidByText := true, laidKinds := [.data], laidTests := true, laidLooks := .later }
def BetterSameCardSaid : Prop := Claim7.holds Tryz.pinned (.plain (OpenSpec.ofChange betterSameSpec)) betterSameCard

/-- THE SECOND FORM's CARD OF 'hayloftlaw25.BetterTells'. -/
def betterTellsUptoCard : Claim7 := { stood := { row := betterTellsUptoRow, standIns := [], harness := (true, "838ab0aef871a6fd431863c5258b5d44818a043eee07193a9627945464a524ec"), looks := true }, kinds := [], alts := [], laidByText := true, laidKinds := [.data], laidTests := true, laidLooks := .later }
def BetterTellsUptoCardSaid : Prop := Claim7.holds Tryz.pinned (.plain (OpenSpec.upto betterTellsSpec)) betterTellsUptoCard

/-- THE SECOND FORM's CARD OF 'hayloftlaw25.BetterSame'. -/
def betterSameUptoCard : Claim7 := { stood := { row := betterSameUptoRow, standIns := [], harness := (true, "838ab0aef871a6fd431863c5258b5d44818a043eee07193a9627945464a524ec"), looks := true }, kinds := [], alts := [], laidByText := true, laidKinds := [.data], laidTests := true, laidLooks := .later }
def BetterSameUptoCardSaid : Prop := Claim7.holds Tryz.pinned (.plain (OpenSpec.upto betterSameSpec)) betterSameUptoCard
end Rows
end Go.Proofs.YtddcndlogoajkaaGreatDoor

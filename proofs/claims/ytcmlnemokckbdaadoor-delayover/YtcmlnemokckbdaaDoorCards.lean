/-
  DERIVED. GIVEN WITH THE SEED: THE CARDS: each row of YtcmlnemokckbdaaDoorRows.lean that lists a variable, with what it lists TIED to the program's text (the seventh form; the later family's looks); each row that meets fmt, with fmt's text TOLD by the authors' own Lean function (tested against real Go, not proved from fmt's source: count such statements apart). THE CARD IS WHAT COUNTS. Prove the row's statement (the work); the ties are given (YtcmlnemokckbdaaDoorTie.lean); close each card by the builder's one call (the guide's Derived/Test/ToyasCard.lean, 'card_holds'). Laid BY PROGRAM, IN A SANDBOX (cutbox-door.mjs). By AI agents, Wed Nov 11 2026. No macro, syntax, notation, axiom, sorry.
-/
import Derived.Test.YtcmlnemokckbdaaDoorRows
import GoSem.ClaimSeven
namespace Go.Proofs.YtcmlnemokckbdaaDoor
namespace Rows

/-- THE TIED CARD OF 'hayloftlaw18.DelayOver'. -/
def delayOverCard : Claim7 := { stood := { row := delayOverRow, standIns := [], harness := (true, "86599c65a1d0ff84796ed5157a5b73f0fc8a745caf695060b51022203c199734"), looks := false }, kinds := [], alts := [], laidByText := true, laidKinds := [.wider, .wider, .wider, .wider], laidTests := true, laidLooks := .later }
def DelayOverCardSaid : Prop := Claim7.holds Tryd.pinned (.plain (OpenSpec.ofChange delayOverSpec)) delayOverCard

/-- THE SECOND FORM's CARD OF 'hayloftlaw18.DelayOver'. -/
def delayOverUptoCard : Claim7 := { stood := { row := delayOverUptoRow, standIns := [], harness := (true, "86599c65a1d0ff84796ed5157a5b73f0fc8a745caf695060b51022203c199734"), looks := false }, kinds := [], alts := [], laidByText := true, laidKinds := [.wider, .wider, .wider, .wider], laidTests := true, laidLooks := .later }
def DelayOverUptoCardSaid : Prop := Claim7.holds Tryd.pinned (.plain (OpenSpec.upto delayOverSpec)) delayOverUptoCard
end Rows
end Go.Proofs.YtcmlnemokckbdaaDoor

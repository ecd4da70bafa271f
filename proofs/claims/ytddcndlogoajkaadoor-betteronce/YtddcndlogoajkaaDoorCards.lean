/-
  DERIVED. GIVEN WITH THE SEED: THE CARDS: each row of YtddcndlogoajkaaDoorRows.lean that lists a variable, with what it lists TIED to the program's text (the seventh form; the later family's looks); each row that meets fmt, with fmt's text TOLD by the authors' own Lean function (tested against real Go, not proved from fmt's source: count such statements apart). THE CARD IS WHAT COUNTS. Prove the row's statement (the work); the ties are given (YtddcndlogoajkaaDoorTie.lean); close each card by the builder's one call (the guide's Derived/Test/ToyasCard.lean, 'card_holds'). Laid BY PROGRAM, IN A SANDBOX (cutbox-door.mjs). By AI agents, Wed Nov 11 2026. No macro, syntax, notation, axiom, sorry.
-/
import Derived.Test.YtddcndlogoajkaaDoorRows
import GoSem.ClaimSeven
namespace Go.Proofs.YtddcndlogoajkaaDoor
namespace Rows

/-- THE TIED CARD OF 'hayloftlaw25.BetterOnce'. -/
def betterOnceCard : Claim7 := { stood := { row := betterOnceRow, standIns := [], harness := (true, "65700b7b361ff2fef48238eae963e926e382bbf528df112fadec5c2e17ff94d0"), looks := false }, kinds := [], alts := [], laidByText := true, laidKinds := [.data], laidTests := true, laidLooks := .later }
def BetterOnceCardSaid : Prop := Claim7.holds Tryd.pinned (.plain (OpenSpec.ofChange betterOnceSpec)) betterOnceCard

/-- THE SECOND FORM's CARD OF 'hayloftlaw25.BetterOnce'. -/
def betterOnceUptoCard : Claim7 := { stood := { row := betterOnceUptoRow, standIns := [], harness := (true, "65700b7b361ff2fef48238eae963e926e382bbf528df112fadec5c2e17ff94d0"), looks := false }, kinds := [], alts := [], laidByText := true, laidKinds := [.data], laidTests := true, laidLooks := .later }
def BetterOnceUptoCardSaid : Prop := Claim7.holds Tryd.pinned (.plain (OpenSpec.upto betterOnceSpec)) betterOnceUptoCard
end Rows
end Go.Proofs.YtddcndlogoajkaaDoor

/-
  DERIVED. GIVEN WITH THE SEED: THE CARDS: each row of YtcmlnemokckbdaaGreatDoorRows.lean that lists a variable, with what it lists TIED to the program's text (the seventh form; the later family's looks); each row that meets fmt, with fmt's text TOLD by the authors' own Lean function (tested against real Go, not proved from fmt's source: count such statements apart). THE CARD IS WHAT COUNTS. Prove the row's statement (the work); the ties are given (YtcmlnemokckbdaaGreatDoorTie.lean); close each card by the builder's one call (the guide's Derived/Test/ToyasCard.lean, 'card_holds'). Laid BY PROGRAM, IN A SANDBOX (cutbox-door.mjs). By AI agents, Wed Nov 11 2026. No macro, syntax, notation, axiom, sorry.
-/
import Derived.Test.YtcmlnemokckbdaaGreatDoorRows
import GoSem.ClaimSeven
namespace Go.Proofs.YtcmlnemokckbdaaGreatDoor
namespace Rows

/-- THE TIED CARD OF 'hayloftlaw18.DelayEnds'. -/
def delayEndsCard : Claim7 := { stood := { row := delayEndsRow, standIns := [], harness := (true, "8a03a18a25830f4ee6caf4f5becde7273b6f8729a9e09dca676bd27bb7561f24"), looks := true }, kinds := [], alts := [], laidByText := true, laidKinds := [.wider, .wider, .wider, .wider], laidTests := true, laidLooks := .later }
def DelayEndsCardSaid : Prop := Claim7.holds Tryz.pinned (.plain (OpenSpec.ofChange delayEndsSpec)) delayEndsCard

/-- THE TIED CARD OF 'hayloftlaw18.DelayEarly'. -/
def delayEarlyCard : Claim7 := { stood := { row := delayEarlyRow, standIns := [], harness := (true, "8a03a18a25830f4ee6caf4f5becde7273b6f8729a9e09dca676bd27bb7561f24"), looks := true }, kinds := [], alts := [], laidByText := true, laidKinds := [.wider, .wider, .wider, .wider, .data], laidTests := true, laidLooks := .later }
def DelayEarlyCardSaid : Prop := Claim7.holds Tryz.pinned (.plain (OpenSpec.ofChange delayEarlySpec)) delayEarlyCard

/-- THE TIED CARD OF 'hayloftlaw18.DelaySafe'. -/
def delaySafeCard : Claim7 := { stood := { row := delaySafeRow, standIns := [], harness := (true, "8a03a18a25830f4ee6caf4f5becde7273b6f8729a9e09dca676bd27bb7561f24"), looks := true }, kinds := [], alts := [], laidByText := true, laidKinds := [.wider, .wider, .wider, .wider, .data], laidTests := true, laidLooks := .later }
def DelaySafeCardSaid : Prop := Claim7.holds Tryz.pinned (.plain (OpenSpec.ofChange delaySafeSpec)) delaySafeCard

/-- THE SECOND FORM's CARD OF 'hayloftlaw18.DelayEnds'. -/
def delayEndsUptoCard : Claim7 := { stood := { row := delayEndsUptoRow, standIns := [], harness := (true, "8a03a18a25830f4ee6caf4f5becde7273b6f8729a9e09dca676bd27bb7561f24"), looks := true }, kinds := [], alts := [], laidByText := true, laidKinds := [.wider, .wider, .wider, .wider], laidTests := true, laidLooks := .later }
def DelayEndsUptoCardSaid : Prop := Claim7.holds Tryz.pinned (.plain (OpenSpec.upto delayEndsSpec)) delayEndsUptoCard

/-- THE SECOND FORM's CARD OF 'hayloftlaw18.DelayEarly'. -/
def delayEarlyUptoCard : Claim7 := { stood := { row := delayEarlyUptoRow, standIns := [], harness := (true, "8a03a18a25830f4ee6caf4f5becde7273b6f8729a9e09dca676bd27bb7561f24"), looks := true }, kinds := [], alts := [], laidByText := true, laidKinds := [.wider, .wider, .wider, .wider, .data], laidTests := true, laidLooks := .later }
def DelayEarlyUptoCardSaid : Prop := Claim7.holds Tryz.pinned (.plain (OpenSpec.upto delayEarlySpec)) delayEarlyUptoCard

/-- THE SECOND FORM's CARD OF 'hayloftlaw18.DelaySafe'. -/
def delaySafeUptoCard : Claim7 := { stood := { row := delaySafeUptoRow, standIns := [], harness := (true, "8a03a18a25830f4ee6caf4f5becde7273b6f8729a9e09dca676bd27bb7561f24"), looks := true }, kinds := [], alts := [], laidByText := true, laidKinds := [.wider, .wider, .wider, .wider, .data], laidTests := true, laidLooks := .later }
def DelaySafeUptoCardSaid : Prop := Claim7.holds Tryz.pinned (.plain (OpenSpec.upto delaySafeSpec)) delaySafeUptoCard
end Rows
end Go.Proofs.YtcmlnemokckbdaaGreatDoor

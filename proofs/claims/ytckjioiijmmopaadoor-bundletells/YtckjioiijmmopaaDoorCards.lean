/-
  DERIVED. GIVEN WITH THE SEED: THE CARDS: each row of YtckjioiijmmopaaDoorRows.lean that lists a variable, with what it lists TIED to the program's text (the seventh form; the later family's looks); each row that meets fmt, with fmt's text TOLD by the authors' own Lean function (tested against real Go, not proved from fmt's source: count such statements apart). THE CARD IS WHAT COUNTS. Prove the row's statement (the work); the ties are given (YtckjioiijmmopaaDoorTie.lean); close each card by the builder's one call (the guide's Derived/Test/ToyasCard.lean, 'card_holds'). Laid BY PROGRAM, IN A SANDBOX (cutbox-door.mjs). By AI agents, Wed Nov 11 2026. No macro, syntax, notation, axiom, sorry.
-/
import Derived.Test.YtckjioiijmmopaaDoorRows
import GoSem.ClaimSeven
namespace Go.Proofs.YtckjioiijmmopaaDoor
namespace Rows

/-- THE TIED CARD OF 'hayloftlaw19.BundleTells'. -/
def bundleTellsCard : Claim7 := { stood := { row := bundleTellsRow, standIns := [], harness := (true, "aafdc7f16f9a8e1ce8f0c96d1c9c614d01525e5ba0139f082757b788102d2fa3"), looks := false }, kinds := [], alts := [], laidByText := true, laidKinds := [.wider, .wider, .wider, .wider], laidTests := true, laidLooks := .later }
def BundleTellsCardSaid : Prop := Claim7.holds Tryd.pinned (.plain (OpenSpec.ofChange bundleTellsSpec)) bundleTellsCard

/-- THE TIED CARD OF 'hayloftlaw19.BundleBack'. -/
def bundleBackCard : Claim7 := { stood := { row := bundleBackRow, standIns := [], harness := (true, "aafdc7f16f9a8e1ce8f0c96d1c9c614d01525e5ba0139f082757b788102d2fa3"), looks := false }, kinds := [], alts := [], laidByText := true, laidKinds := [.wider, .wider, .wider, .wider], laidTests := true, laidLooks := .later }
def BundleBackCardSaid : Prop := Claim7.holds Tryd.pinned (.plain (OpenSpec.ofChange bundleBackSpec)) bundleBackCard

/-- THE TIED CARD OF 'hayloftlaw19.BundleJust'. -/
def bundleJustCard : Claim7 := { stood := { row := bundleJustRow, standIns := [], harness := (true, "aafdc7f16f9a8e1ce8f0c96d1c9c614d01525e5ba0139f082757b788102d2fa3"), looks := false }, kinds := [], alts := [], laidByText := true, laidKinds := [.wider, .wider, .wider, .wider], laidTests := true, laidLooks := .later }
def BundleJustCardSaid : Prop := Claim7.holds Tryd.pinned (.plain (OpenSpec.ofChange bundleJustSpec)) bundleJustCard

/-- THE TIED CARD OF 'hayloftlaw19.BundleBit'. -/
def bundleBitCard : Claim7 := { stood := { row := bundleBitRow, standIns := [], harness := (true, "aafdc7f16f9a8e1ce8f0c96d1c9c614d01525e5ba0139f082757b788102d2fa3"), looks := false }, kinds := [], alts := [], laidByText := true, laidKinds := [.wider, .wider, .wider, .wider], laidTests := true, laidLooks := .later }
def BundleBitCardSaid : Prop := Claim7.holds Tryd.pinned (.plain (OpenSpec.ofChange bundleBitSpec)) bundleBitCard

/-- THE SECOND FORM's CARD OF 'hayloftlaw19.BundleTells'. -/
def bundleTellsUptoCard : Claim7 := { stood := { row := bundleTellsUptoRow, standIns := [], harness := (true, "aafdc7f16f9a8e1ce8f0c96d1c9c614d01525e5ba0139f082757b788102d2fa3"), looks := false }, kinds := [], alts := [], laidByText := true, laidKinds := [.wider, .wider, .wider, .wider], laidTests := true, laidLooks := .later }
def BundleTellsUptoCardSaid : Prop := Claim7.holds Tryd.pinned (.plain (OpenSpec.upto bundleTellsSpec)) bundleTellsUptoCard

/-- THE SECOND FORM's CARD OF 'hayloftlaw19.BundleBack'. -/
def bundleBackUptoCard : Claim7 := { stood := { row := bundleBackUptoRow, standIns := [], harness := (true, "aafdc7f16f9a8e1ce8f0c96d1c9c614d01525e5ba0139f082757b788102d2fa3"), looks := false }, kinds := [], alts := [], laidByText := true, laidKinds := [.wider, .wider, .wider, .wider], laidTests := true, laidLooks := .later }
def BundleBackUptoCardSaid : Prop := Claim7.holds Tryd.pinned (.plain (OpenSpec.upto bundleBackSpec)) bundleBackUptoCard

/-- THE SECOND FORM's CARD OF 'hayloftlaw19.BundleJust'. -/
def bundleJustUptoCard : Claim7 := { stood := { row := bundleJustUptoRow, standIns := [], harness := (true, "aafdc7f16f9a8e1ce8f0c96d1c9c614d01525e5ba0139f082757b788102d2fa3"), looks := false }, kinds := [], alts := [], laidByText := true, laidKinds := [.wider, .wider, .wider, .wider], laidTests := true, laidLooks := .later }
def BundleJustUptoCardSaid : Prop := Claim7.holds Tryd.pinned (.plain (OpenSpec.upto bundleJustSpec)) bundleJustUptoCard

/-- THE SECOND FORM's CARD OF 'hayloftlaw19.BundleBit'. -/
def bundleBitUptoCard : Claim7 := { stood := { row := bundleBitUptoRow, standIns := [], harness := (true, "aafdc7f16f9a8e1ce8f0c96d1c9c614d01525e5ba0139f082757b788102d2fa3"), looks := false }, kinds := [], alts := [], laidByText := true, laidKinds := [.wider, .wider, .wider, .wider], laidTests := true, laidLooks := .later }
def BundleBitUptoCardSaid : Prop := Claim7.holds Tryd.pinned (.plain (OpenSpec.upto bundleBitSpec)) bundleBitUptoCard
end Rows
end Go.Proofs.YtckjioiijmmopaaDoor

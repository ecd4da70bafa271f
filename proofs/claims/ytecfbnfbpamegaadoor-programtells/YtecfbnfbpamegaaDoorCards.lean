/-
  DERIVED. GIVEN WITH THE SEED: THE CARDS: each row of YtecfbnfbpamegaaDoorRows.lean that lists a variable, with what it lists TIED to the program's text (the seventh form; the later family's looks); each row that meets fmt, with fmt's text TOLD by the authors' own Lean function (tested against real Go, not proved from fmt's source: count such statements apart). THE CARD IS WHAT COUNTS. Prove the row's statement (the work); the ties are given (YtecfbnfbpamegaaDoorTie.lean); close each card by the builder's one call (the guide's Derived/Test/ToyasCard.lean, 'card_holds'). Laid BY PROGRAM, IN A SANDBOX (cutbox-door.mjs). By AI agents, Wed Nov 11 2026. No macro, syntax, notation, axiom, sorry.
-/
import Derived.Test.YtecfbnfbpamegaaDoorRows
import GoSem.ClaimSeven
namespace Go.Proofs.YtecfbnfbpamegaaDoor
namespace Rows

/-- THE TIED CARD OF 'hayloftlaw04.ProgramTells'. -/
def programTellsCard : Claim7 := { stood := { row := programTellsRow, standIns := [], harness := (true, "b36c909eab14781466e9c29864ff24af4f6d4eee53943dfb016fc3a3e672cff3"), looks := false }, kinds := [], alts := [], laidByText := true, laidKinds := [.wider, .wider, .wider, .wider, .data], laidTests := true, laidLooks := .later }
def ProgramTellsCardSaid : Prop := Claim7.holds Tryd.pinned (.plain (OpenSpec.ofChange programTellsSpec)) programTellsCard

/-- THE TIED CARD OF 'hayloftlaw04.ProgramCut'. -/
def programCutCard : Claim7 := { stood := { row := programCutRow, standIns := [], harness := (true, "b36c909eab14781466e9c29864ff24af4f6d4eee53943dfb016fc3a3e672cff3"), looks := false }, kinds := [], alts := [], laidByText := true, laidKinds := [.wider, .wider, .wider, .wider, .data], laidTests := true, laidLooks := .later }
def ProgramCutCardSaid : Prop := Claim7.holds Tryd.pinned (.plain (OpenSpec.ofChange programCutSpec)) programCutCard

/-- THE TIED CARD OF 'hayloftlaw04.ProgramNeeds'. -/
def programNeedsCard : Claim7 := { stood := { row := programNeedsRow, standIns := [], harness := (true, "b36c909eab14781466e9c29864ff24af4f6d4eee53943dfb016fc3a3e672cff3"), looks := false }, kinds := [], alts := [], laidByText := true, laidKinds := [.wider, .wider, .wider, .wider, .data], laidTests := true, laidLooks := .later }
def ProgramNeedsCardSaid : Prop := Claim7.holds Tryd.pinned (.plain (OpenSpec.ofChange programNeedsSpec)) programNeedsCard

/-- THE SECOND FORM's CARD OF 'hayloftlaw04.ProgramTells'. -/
def programTellsUptoCard : Claim7 := { stood := { row := programTellsUptoRow, standIns := [], harness := (true, "b36c909eab14781466e9c29864ff24af4f6d4eee53943dfb016fc3a3e672cff3"), looks := false }, kinds := [], alts := [], laidByText := true, laidKinds := [.wider, .wider, .wider, .wider, .data], laidTests := true, laidLooks := .later }
def ProgramTellsUptoCardSaid : Prop := Claim7.holds Tryd.pinned (.plain (OpenSpec.upto programTellsSpec)) programTellsUptoCard

/-- THE SECOND FORM's CARD OF 'hayloftlaw04.ProgramCut'. -/
def programCutUptoCard : Claim7 := { stood := { row := programCutUptoRow, standIns := [], harness := (true, "b36c909eab14781466e9c29864ff24af4f6d4eee53943dfb016fc3a3e672cff3"), looks := false }, kinds := [], alts := [], laidByText := true, laidKinds := [.wider, .wider, .wider, .wider, .data], laidTests := true, laidLooks := .later }
def ProgramCutUptoCardSaid : Prop := Claim7.holds Tryd.pinned (.plain (OpenSpec.upto programCutSpec)) programCutUptoCard

/-- THE SECOND FORM's CARD OF 'hayloftlaw04.ProgramNeeds'. -/
def programNeedsUptoCard : Claim7 := { stood := { row := programNeedsUptoRow, standIns := [], harness := (true, "b36c909eab14781466e9c29864ff24af4f6d4eee53943dfb016fc3a3e672cff3"), looks := false }, kinds := [], alts := [], laidByText := true, laidKinds := [.wider, .wider, .wider, .wider, .data], laidTests := true, laidLooks := .later }
def ProgramNeedsUptoCardSaid : Prop := Claim7.holds Tryd.pinned (.plain (OpenSpec.upto programNeedsSpec)) programNeedsUptoCard
end Rows
end Go.Proofs.YtecfbnfbpamegaaDoor

/-
  DERIVED. GIVEN WITH THE SEED: THE CARDS: each row of YtlinekpaffgcjaaDoorRows.lean that lists a variable, with what it lists TIED to the program's text (the seventh form; the later family's looks); each row that meets fmt, with fmt's text TOLD by the authors' own Lean function (tested against real Go, not proved from fmt's source: count such statements apart). THE CARD IS WHAT COUNTS. Prove the row's statement (the work); the ties are given (YtlinekpaffgcjaaDoorTie.lean); close each card by the builder's one call (the guide's Derived/Test/ToyasCard.lean, 'card_holds'). Laid BY PROGRAM, IN A SANDBOX (cutbox-door.mjs). By AI agents, Wed Nov 11 2026. No macro, syntax, notation, axiom, sorry.
-/
import Derived.Test.YtlinekpaffgcjaaDoorRows
import GoSem.ClaimSeven
namespace Go.Proofs.YtlinekpaffgcjaaDoor
namespace Rows

/-- THE TIED CARD OF 'hayloftlaw08.LiveTells'. -/
def liveTellsCard : Claim7 := { stood := { row := liveTellsRow, standIns := [], harness := (true, "75e7f77dae7501dedbe8b7086441ab48424e2c82ddf11b836d99d5a1a0a0c239"), looks := false }, kinds := [], alts := [], laidByText := true, laidKinds := [.data], laidTests := true, laidLooks := .later }
def LiveTellsCardSaid : Prop := Claim7.holds Tryd.pinned (.plain (OpenSpec.ofChange liveTellsSpec)) liveTellsCard

/-- THE TIED CARD OF 'hayloftlaw08.LiveMeans'. -/
def liveMeansCard : Claim7 := { stood := { row := liveMeansRow, standIns := [], harness := (true, "75e7f77dae7501dedbe8b7086441ab48424e2c82ddf11b836d99d5a1a0a0c239"), looks := false }, kinds := [], alts := [], laidByText := true, laidKinds := [.data], laidTests := true, laidLooks := .later }
def LiveMeansCardSaid : Prop := Claim7.holds Tryd.pinned (.plain (OpenSpec.ofChange liveMeansSpec)) liveMeansCard

/-- THE TIED CARD OF 'hayloftlaw08.LiveEnds'. -/
def liveEndsCard : Claim7 := { stood := { row := liveEndsRow, standIns := [], harness := (true, "75e7f77dae7501dedbe8b7086441ab48424e2c82ddf11b836d99d5a1a0a0c239"), looks := false }, kinds := [], alts := [], laidByText := true, laidKinds := [.data], laidTests := true, laidLooks := .later }
def LiveEndsCardSaid : Prop := Claim7.holds Tryd.pinned (.plain (OpenSpec.ofChange liveEndsSpec)) liveEndsCard

/-- THE SECOND FORM's CARD OF 'hayloftlaw08.LiveTells'. -/
def liveTellsUptoCard : Claim7 := { stood := { row := liveTellsUptoRow, standIns := [], harness := (true, "75e7f77dae7501dedbe8b7086441ab48424e2c82ddf11b836d99d5a1a0a0c239"), looks := false }, kinds := [], alts := [], laidByText := true, laidKinds := [.data], laidTests := true, laidLooks := .later }
def LiveTellsUptoCardSaid : Prop := Claim7.holds Tryd.pinned (.plain (OpenSpec.upto liveTellsSpec)) liveTellsUptoCard

/-- THE SECOND FORM's CARD OF 'hayloftlaw08.LiveMeans'. -/
def liveMeansUptoCard : Claim7 := { stood := { row := liveMeansUptoRow, standIns := [], harness := (true, "75e7f77dae7501dedbe8b7086441ab48424e2c82ddf11b836d99d5a1a0a0c239"), looks := false }, kinds := [], alts := [], laidByText := true, laidKinds := [.data], laidTests := true, laidLooks := .later }
def LiveMeansUptoCardSaid : Prop := Claim7.holds Tryd.pinned (.plain (OpenSpec.upto liveMeansSpec)) liveMeansUptoCard

/-- THE SECOND FORM's CARD OF 'hayloftlaw08.LiveEnds'. -/
def liveEndsUptoCard : Claim7 := { stood := { row := liveEndsUptoRow, standIns := [], harness := (true, "75e7f77dae7501dedbe8b7086441ab48424e2c82ddf11b836d99d5a1a0a0c239"), looks := false }, kinds := [], alts := [], laidByText := true, laidKinds := [.data], laidTests := true, laidLooks := .later }
def LiveEndsUptoCardSaid : Prop := Claim7.holds Tryd.pinned (.plain (OpenSpec.upto liveEndsSpec)) liveEndsUptoCard
end Rows
end Go.Proofs.YtlinekpaffgcjaaDoor

/-
  DERIVED. GIVEN WITH THE SEED: THE CARDS: each row of YtccakjijoadjkaaDoorRows.lean that lists a variable, with what it lists TIED to the program's text (the seventh form; the later family's looks); each row that meets fmt, with fmt's text TOLD by the authors' own Lean function (tested against real Go, not proved from fmt's source: count such statements apart). THE CARD IS WHAT COUNTS. Prove the row's statement (the work); the ties are given (YtccakjijoadjkaaDoorTie.lean); close each card by the builder's one call (the guide's Derived/Test/ToyasCard.lean, 'card_holds'). Laid BY PROGRAM, IN A SANDBOX (cutbox-door.mjs). By AI agents, Wed Nov 11 2026. No macro, syntax, notation, axiom, sorry.
-/
import Derived.Test.YtccakjijoadjkaaDoorRows
import GoSem.ClaimSeven
namespace Go.Proofs.YtccakjijoadjkaaDoor
namespace Rows

/-- THE TIED CARD OF 'hayloftlaw11.DepsTell'. -/
def depsTellCard : Claim7 := { stood := { row := depsTellRow, standIns := [], harness := (true, "a30ebd5077f33e5cdccaff7d2a4a0209575c01e2b2de5e3f09ea03bda577cf6e"), looks := true }, kinds := [], alts := [], laidByText := true, laidKinds := [.wider, .wider, .wider, .wider], laidTests := true, laidLooks := .later }
def DepsTellCardSaid : Prop := Claim7.holds Tryd.pinned (.plain (OpenSpec.ofChange depsTellSpec)) depsTellCard

/-- THE TIED CARD OF 'hayloftlaw11.DepsSwap'. -/
def depsSwapCard : Claim7 := { stood := { row := depsSwapRow, standIns := [], harness := (true, "a30ebd5077f33e5cdccaff7d2a4a0209575c01e2b2de5e3f09ea03bda577cf6e"), looks := true }, kinds := [], alts := [], laidByText := true, laidKinds := [.wider, .wider, .wider, .wider, .data], laidTests := true, laidLooks := .later }
def DepsSwapCardSaid : Prop := Claim7.holds Tryd.pinned (.plain (OpenSpec.ofChange depsSwapSpec)) depsSwapCard

/-- THE TIED CARD OF 'hayloftlaw11.DepsLater'. -/
def depsLaterCard : Claim7 := { stood := { row := depsLaterRow, standIns := [], harness := (true, "a30ebd5077f33e5cdccaff7d2a4a0209575c01e2b2de5e3f09ea03bda577cf6e"), looks := true }, kinds := [], alts := [], laidByText := true, laidKinds := [.wider, .wider, .wider, .wider], laidTests := true, laidLooks := .later }
def DepsLaterCardSaid : Prop := Claim7.holds Tryd.pinned (.plain (OpenSpec.ofChange depsLaterSpec)) depsLaterCard

/-- THE TIED CARD OF 'hayloftlaw12.HeightTells'. -/
def heightTellsCard : Claim7 := { stood := { row := heightTellsRow, standIns := [], harness := (true, "a30ebd5077f33e5cdccaff7d2a4a0209575c01e2b2de5e3f09ea03bda577cf6e"), looks := true }, kinds := [], alts := [], laidByText := true, laidKinds := [.wider, .wider, .wider, .wider], laidTests := true, laidLooks := .later }
def HeightTellsCardSaid : Prop := Claim7.holds Tryd.pinned (.plain (OpenSpec.ofChange heightTellsSpec)) heightTellsCard

/-- THE TIED CARD OF 'hayloftlaw12.HeightFalls'. -/
def heightFallsCard : Claim7 := { stood := { row := heightFallsRow, standIns := [], harness := (true, "a30ebd5077f33e5cdccaff7d2a4a0209575c01e2b2de5e3f09ea03bda577cf6e"), looks := true }, kinds := [], alts := [], laidByText := true, laidKinds := [.wider, .wider, .wider, .wider], laidTests := true, laidLooks := .later }
def HeightFallsCardSaid : Prop := Claim7.holds Tryd.pinned (.plain (OpenSpec.ofChange heightFallsSpec)) heightFallsCard

/-- THE TIED CARD OF 'hayloftlaw12.HeightBound'. -/
def heightBoundCard : Claim7 := { stood := { row := heightBoundRow, standIns := [], harness := (true, "a30ebd5077f33e5cdccaff7d2a4a0209575c01e2b2de5e3f09ea03bda577cf6e"), looks := true }, kinds := [], alts := [], laidByText := true, laidKinds := [.wider, .wider, .wider, .wider], laidTests := true, laidLooks := .later }
def HeightBoundCardSaid : Prop := Claim7.holds Tryd.pinned (.plain (OpenSpec.ofChange heightBoundSpec)) heightBoundCard

/-- THE SECOND FORM's CARD OF 'hayloftlaw11.DepsTell'. -/
def depsTellUptoCard : Claim7 := { stood := { row := depsTellUptoRow, standIns := [], harness := (true, "a30ebd5077f33e5cdccaff7d2a4a0209575c01e2b2de5e3f09ea03bda577cf6e"), looks := true }, kinds := [], alts := [], laidByText := true, laidKinds := [.wider, .wider, .wider, .wider], laidTests := true, laidLooks := .later }
def DepsTellUptoCardSaid : Prop := Claim7.holds Tryd.pinned (.plain (OpenSpec.upto depsTellSpec)) depsTellUptoCard

/-- THE SECOND FORM's CARD OF 'hayloftlaw11.DepsSwap'. -/
def depsSwapUptoCard : Claim7 := { stood := { row := depsSwapUptoRow, standIns := [], harness := (true, "a30ebd5077f33e5cdccaff7d2a4a0209575c01e2b2de5e3f09ea03bda577cf6e"), looks := true }, kinds := [], alts := [], laidByText := true, laidKinds := [.wider, .wider, .wider, .wider, .data], laidTests := true, laidLooks := .later }
def DepsSwapUptoCardSaid : Prop := Claim7.holds Tryd.pinned (.plain (OpenSpec.upto depsSwapSpec)) depsSwapUptoCard

/-- THE SECOND FORM's CARD OF 'hayloftlaw11.DepsLater'. -/
def depsLaterUptoCard : Claim7 := { stood := { row := depsLaterUptoRow, standIns := [], harness := (true, "a30ebd5077f33e5cdccaff7d2a4a0209575c01e2b2de5e3f09ea03bda577cf6e"), looks := true }, kinds := [], alts := [], laidByText := true, laidKinds := [.wider, .wider, .wider, .wider], laidTests := true, laidLooks := .later }
def DepsLaterUptoCardSaid : Prop := Claim7.holds Tryd.pinned (.plain (OpenSpec.upto depsLaterSpec)) depsLaterUptoCard

/-- THE SECOND FORM's CARD OF 'hayloftlaw12.HeightTells'. -/
def heightTellsUptoCard : Claim7 := { stood := { row := heightTellsUptoRow, standIns := [], harness := (true, "a30ebd5077f33e5cdccaff7d2a4a0209575c01e2b2de5e3f09ea03bda577cf6e"), looks := true }, kinds := [], alts := [], laidByText := true, laidKinds := [.wider, .wider, .wider, .wider], laidTests := true, laidLooks := .later }
def HeightTellsUptoCardSaid : Prop := Claim7.holds Tryd.pinned (.plain (OpenSpec.upto heightTellsSpec)) heightTellsUptoCard

/-- THE SECOND FORM's CARD OF 'hayloftlaw12.HeightFalls'. -/
def heightFallsUptoCard : Claim7 := { stood := { row := heightFallsUptoRow, standIns := [], harness := (true, "a30ebd5077f33e5cdccaff7d2a4a0209575c01e2b2de5e3f09ea03bda577cf6e"), looks := true }, kinds := [], alts := [], laidByText := true, laidKinds := [.wider, .wider, .wider, .wider], laidTests := true, laidLooks := .later }
def HeightFallsUptoCardSaid : Prop := Claim7.holds Tryd.pinned (.plain (OpenSpec.upto heightFallsSpec)) heightFallsUptoCard

/-- THE SECOND FORM's CARD OF 'hayloftlaw12.HeightBound'. -/
def heightBoundUptoCard : Claim7 := { stood := { row := heightBoundUptoRow, standIns := [], harness := (true, "a30ebd5077f33e5cdccaff7d2a4a0209575c01e2b2de5e3f09ea03bda577cf6e"), looks := true }, kinds := [], alts := [], laidByText := true, laidKinds := [.wider, .wider, .wider, .wider], laidTests := true, laidLooks := .later }
def HeightBoundUptoCardSaid : Prop := Claim7.holds Tryd.pinned (.plain (OpenSpec.upto heightBoundSpec)) heightBoundUptoCard
end Rows
end Go.Proofs.YtccakjijoadjkaaDoor

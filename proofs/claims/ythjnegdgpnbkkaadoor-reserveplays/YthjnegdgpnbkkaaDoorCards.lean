/-
  DERIVED. GIVEN WITH THE SEED: THE CARDS: each row of YthjnegdgpnbkkaaDoorRows.lean that lists a variable, with what it lists TIED to the program's text (the seventh form; the later family's looks); each row that meets fmt, with fmt's text TOLD by the authors' own Lean function (tested against real Go, not proved from fmt's source: count such statements apart). THE CARD IS WHAT COUNTS. Prove the row's statement (the work); the ties are given (YthjnegdgpnbkkaaDoorTie.lean); close each card by the builder's one call (the guide's Derived/Test/ToyasCard.lean, 'card_holds'). Laid BY PROGRAM, IN A SANDBOX (cutbox-door.mjs). By AI agents, Wed Nov 11 2026. No macro, syntax, notation, axiom, sorry.
-/
import Derived.Test.YthjnegdgpnbkkaaDoorRows
import GoSem.ClaimSeven
namespace Go.Proofs.YthjnegdgpnbkkaaDoor
namespace Rows

/-- THE TIED CARD OF 'hayloftlaw13.ReservePlays'. -/
def reservePlaysCard : Claim7 := { stood := { row := reservePlaysRow, standIns := [], harness := (true, "41d5eb52f73982b6906903c8a12c183dcc02648f7fb8913e626d88582d2c836e"), looks := false }, kinds := [], alts := [], laidByText := true, laidKinds := [.wider, .wider, .wider, .wider], laidTests := true, laidLooks := .later }
def ReservePlaysCardSaid : Prop := Claim7.holds Tryd.pinned (.plain (OpenSpec.ofChange reservePlaysSpec)) reservePlaysCard

/-- THE TIED CARD OF 'hayloftlaw13.ReserveNil'. -/
def reserveNilCard : Claim7 := { stood := { row := reserveNilRow, standIns := [], harness := (true, "41d5eb52f73982b6906903c8a12c183dcc02648f7fb8913e626d88582d2c836e"), looks := false }, kinds := [], alts := [], laidByText := true, laidKinds := [.wider, .wider, .wider, .wider], laidTests := true, laidLooks := .later }
def ReserveNilCardSaid : Prop := Claim7.holds Tryd.pinned (.plain (OpenSpec.ofChange reserveNilSpec)) reserveNilCard

/-- THE TIED CARD OF 'hayloftlaw13.ReserveCounts'. -/
def reserveCountsCard : Claim7 := { stood := { row := reserveCountsRow, standIns := [], harness := (true, "41d5eb52f73982b6906903c8a12c183dcc02648f7fb8913e626d88582d2c836e"), looks := false }, kinds := [], alts := [], laidByText := true, laidKinds := [.wider, .wider, .wider, .wider], laidTests := true, laidLooks := .later }
def ReserveCountsCardSaid : Prop := Claim7.holds Tryd.pinned (.plain (OpenSpec.ofChange reserveCountsSpec)) reserveCountsCard

/-- THE TIED CARD OF 'hayloftlaw13.ReserveWide'. -/
def reserveWideCard : Claim7 := { stood := { row := reserveWideRow, standIns := [], harness := (true, "41d5eb52f73982b6906903c8a12c183dcc02648f7fb8913e626d88582d2c836e"), looks := false }, kinds := [], alts := [], laidByText := true, laidKinds := [.wider, .wider, .wider, .wider], laidTests := true, laidLooks := .later }
def ReserveWideCardSaid : Prop := Claim7.holds Tryd.pinned (.plain (OpenSpec.ofChange reserveWideSpec)) reserveWideCard

/-- THE SECOND FORM's CARD OF 'hayloftlaw13.ReservePlays'. -/
def reservePlaysUptoCard : Claim7 := { stood := { row := reservePlaysUptoRow, standIns := [], harness := (true, "41d5eb52f73982b6906903c8a12c183dcc02648f7fb8913e626d88582d2c836e"), looks := false }, kinds := [], alts := [], laidByText := true, laidKinds := [.wider, .wider, .wider, .wider], laidTests := true, laidLooks := .later }
def ReservePlaysUptoCardSaid : Prop := Claim7.holds Tryd.pinned (.plain (OpenSpec.upto reservePlaysSpec)) reservePlaysUptoCard

/-- THE SECOND FORM's CARD OF 'hayloftlaw13.ReserveNil'. -/
def reserveNilUptoCard : Claim7 := { stood := { row := reserveNilUptoRow, standIns := [], harness := (true, "41d5eb52f73982b6906903c8a12c183dcc02648f7fb8913e626d88582d2c836e"), looks := false }, kinds := [], alts := [], laidByText := true, laidKinds := [.wider, .wider, .wider, .wider], laidTests := true, laidLooks := .later }
def ReserveNilUptoCardSaid : Prop := Claim7.holds Tryd.pinned (.plain (OpenSpec.upto reserveNilSpec)) reserveNilUptoCard

/-- THE SECOND FORM's CARD OF 'hayloftlaw13.ReserveCounts'. -/
def reserveCountsUptoCard : Claim7 := { stood := { row := reserveCountsUptoRow, standIns := [], harness := (true, "41d5eb52f73982b6906903c8a12c183dcc02648f7fb8913e626d88582d2c836e"), looks := false }, kinds := [], alts := [], laidByText := true, laidKinds := [.wider, .wider, .wider, .wider], laidTests := true, laidLooks := .later }
def ReserveCountsUptoCardSaid : Prop := Claim7.holds Tryd.pinned (.plain (OpenSpec.upto reserveCountsSpec)) reserveCountsUptoCard

/-- THE SECOND FORM's CARD OF 'hayloftlaw13.ReserveWide'. -/
def reserveWideUptoCard : Claim7 := { stood := { row := reserveWideUptoRow, standIns := [], harness := (true, "41d5eb52f73982b6906903c8a12c183dcc02648f7fb8913e626d88582d2c836e"), looks := false }, kinds := [], alts := [], laidByText := true, laidKinds := [.wider, .wider, .wider, .wider], laidTests := true, laidLooks := .later }
def ReserveWideUptoCardSaid : Prop := Claim7.holds Tryd.pinned (.plain (OpenSpec.upto reserveWideSpec)) reserveWideUptoCard
end Rows
end Go.Proofs.YthjnegdgpnbkkaaDoor

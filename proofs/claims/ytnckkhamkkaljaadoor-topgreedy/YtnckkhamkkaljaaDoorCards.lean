/-
  DERIVED. GIVEN WITH THE SEED: THE CARDS: each row of YtnckkhamkkaljaaDoorRows.lean that lists a variable, with what it lists TIED to the program's text (the seventh form; the later family's looks); each row that meets fmt, with fmt's text TOLD by the authors' own Lean function (tested against real Go, not proved from fmt's source: count such statements apart). THE CARD IS WHAT COUNTS. Prove the row's statement (the work); the ties are given (YtnckkhamkkaljaaDoorTie.lean); close each card by the builder's one call (the guide's Derived/Test/ToyasCard.lean, 'card_holds'). Laid BY PROGRAM, IN A SANDBOX (cutbox-door.mjs). By AI agents, Wed Nov 11 2026. No macro, syntax, notation, axiom, sorry.
-/
import Derived.Test.YtnckkhamkkaljaaDoorRows
import GoSem.ClaimSeven
namespace Go.Proofs.YtnckkhamkkaljaaDoor
namespace Rows

/-- THE TIED CARD OF 'hayloftlaw14.ListChecks'. -/
def listChecksCard : Claim7 := { stood := { row := listChecksRow, standIns := [], harness := (true, "c07084858d27ea713fda486f4809b308d69d484b91a84cbd48a355e6ff8934d4"), looks := false }, kinds := [], alts := [], laidByText := true, laidKinds := [.wider, .wider, .wider, .wider], laidTests := true, laidLooks := .later }
def ListChecksCardSaid : Prop := Claim7.holds Tryd.pinned (.plain (OpenSpec.ofChange listChecksSpec)) listChecksCard

/-- THE TIED CARD OF 'hayloftlaw14.ListEarly'. -/
def listEarlyCard : Claim7 := { stood := { row := listEarlyRow, standIns := [], harness := (true, "c07084858d27ea713fda486f4809b308d69d484b91a84cbd48a355e6ff8934d4"), looks := false }, kinds := [], alts := [], laidByText := true, laidKinds := [.wider, .wider, .wider, .wider], laidTests := true, laidLooks := .later }
def ListEarlyCardSaid : Prop := Claim7.holds Tryd.pinned (.plain (OpenSpec.ofChange listEarlySpec)) listEarlyCard

/-- THE TIED CARD OF 'hayloftlaw14.ListOwn'. -/
def listOwnCard : Claim7 := { stood := { row := listOwnRow, standIns := [], harness := (true, "c07084858d27ea713fda486f4809b308d69d484b91a84cbd48a355e6ff8934d4"), looks := false }, kinds := [], alts := [], laidByText := true, laidKinds := [.wider, .wider, .wider, .wider], laidTests := true, laidLooks := .later }
def ListOwnCardSaid : Prop := Claim7.holds Tryd.pinned (.plain (OpenSpec.ofChange listOwnSpec)) listOwnCard

/-- THE TIED CARD OF 'haylofttop.TopGreedy'. -/
def topGreedyCard : Claim7 := { stood := { row := topGreedyRow, standIns := [], harness := (true, "c07084858d27ea713fda486f4809b308d69d484b91a84cbd48a355e6ff8934d4"), looks := false }, kinds := [], alts := [], laidByText := true, laidKinds := [.wider, .wider, .wider, .wider], laidTests := true, laidLooks := .later }
def TopGreedyCardSaid : Prop := Claim7.holds Tryd.pinned (.plain (OpenSpec.ofChange topGreedySpec)) topGreedyCard

/-- THE SECOND FORM's CARD OF 'hayloftlaw14.ListChecks'. -/
def listChecksUptoCard : Claim7 := { stood := { row := listChecksUptoRow, standIns := [], harness := (true, "c07084858d27ea713fda486f4809b308d69d484b91a84cbd48a355e6ff8934d4"), looks := false }, kinds := [], alts := [], laidByText := true, laidKinds := [.wider, .wider, .wider, .wider], laidTests := true, laidLooks := .later }
def ListChecksUptoCardSaid : Prop := Claim7.holds Tryd.pinned (.plain (OpenSpec.upto listChecksSpec)) listChecksUptoCard

/-- THE SECOND FORM's CARD OF 'hayloftlaw14.ListEarly'. -/
def listEarlyUptoCard : Claim7 := { stood := { row := listEarlyUptoRow, standIns := [], harness := (true, "c07084858d27ea713fda486f4809b308d69d484b91a84cbd48a355e6ff8934d4"), looks := false }, kinds := [], alts := [], laidByText := true, laidKinds := [.wider, .wider, .wider, .wider], laidTests := true, laidLooks := .later }
def ListEarlyUptoCardSaid : Prop := Claim7.holds Tryd.pinned (.plain (OpenSpec.upto listEarlySpec)) listEarlyUptoCard

/-- THE SECOND FORM's CARD OF 'hayloftlaw14.ListOwn'. -/
def listOwnUptoCard : Claim7 := { stood := { row := listOwnUptoRow, standIns := [], harness := (true, "c07084858d27ea713fda486f4809b308d69d484b91a84cbd48a355e6ff8934d4"), looks := false }, kinds := [], alts := [], laidByText := true, laidKinds := [.wider, .wider, .wider, .wider], laidTests := true, laidLooks := .later }
def ListOwnUptoCardSaid : Prop := Claim7.holds Tryd.pinned (.plain (OpenSpec.upto listOwnSpec)) listOwnUptoCard

/-- THE SECOND FORM's CARD OF 'haylofttop.TopGreedy'. -/
def topGreedyUptoCard : Claim7 := { stood := { row := topGreedyUptoRow, standIns := [], harness := (true, "c07084858d27ea713fda486f4809b308d69d484b91a84cbd48a355e6ff8934d4"), looks := false }, kinds := [], alts := [], laidByText := true, laidKinds := [.wider, .wider, .wider, .wider], laidTests := true, laidLooks := .later }
def TopGreedyUptoCardSaid : Prop := Claim7.holds Tryd.pinned (.plain (OpenSpec.upto topGreedySpec)) topGreedyUptoCard
end Rows
end Go.Proofs.YtnckkhamkkaljaaDoor

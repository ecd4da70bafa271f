/-
  DERIVED. GIVEN WITH THE SEED: THE CARDS: each row of YtlnfhbkkodhmaaaDoorRows.lean that lists a variable, with what it lists TIED to the program's text (the seventh form; the later family's looks); each row that meets fmt, with fmt's text TOLD by the authors' own Lean function (tested against real Go, not proved from fmt's source: count such statements apart). THE CARD IS WHAT COUNTS. Prove the row's statement (the work); the ties are given (YtlnfhbkkodhmaaaDoorTie.lean); close each card by the builder's one call (the guide's Derived/Test/ToyasCard.lean, 'card_holds'). Laid BY PROGRAM, IN A SANDBOX (cutbox-door.mjs). By AI agents, Wed Nov 11 2026. No macro, syntax, notation, axiom, sorry.
-/
import Derived.Test.YtlnfhbkkodhmaaaDoorRows
import GoSem.ClaimSeven
namespace Go.Proofs.YtlnfhbkkodhmaaaDoor
namespace Rows

/-- THE TIED CARD OF 'hayloftlaw09.SerialRuns'. -/
def serialRunsCard : Claim7 := { stood := { row := serialRunsRow, standIns := [], harness := (true, "2cd15914c1cc916fa85673181e1e7625814c33a0071ee3ea218290e15ea07353"), looks := true }, kinds := [], alts := [], laidByText := true, laidKinds := [.data], laidTests := true, laidLooks := .later }
def SerialRunsCardSaid : Prop := Claim7.holds Tryd.pinned (.plain (OpenSpec.ofChange serialRunsSpec)) serialRunsCard

/-- THE TIED CARD OF 'hayloftlaw09.SerialTrail'. -/
def serialTrailCard : Claim7 := { stood := { row := serialTrailRow, standIns := [], harness := (true, "2cd15914c1cc916fa85673181e1e7625814c33a0071ee3ea218290e15ea07353"), looks := true }, kinds := [], alts := [], laidByText := true, laidKinds := [.data], laidTests := true, laidLooks := .later }
def SerialTrailCardSaid : Prop := Claim7.holds Tryd.pinned (.plain (OpenSpec.ofChange serialTrailSpec)) serialTrailCard

/-- THE TIED CARD OF 'hayloftlaw09.SerialNil'. -/
def serialNilCard : Claim7 := { stood := { row := serialNilRow, standIns := [], harness := (true, "2cd15914c1cc916fa85673181e1e7625814c33a0071ee3ea218290e15ea07353"), looks := true }, kinds := [], alts := [], laidByText := true, laidKinds := [.data], laidTests := true, laidLooks := .later }
def SerialNilCardSaid : Prop := Claim7.holds Tryd.pinned (.plain (OpenSpec.ofChange serialNilSpec)) serialNilCard

/-- THE TIED CARD OF 'hayloftlaw09.SerialDealt'. -/
def serialDealtCard : Claim7 := { stood := { row := serialDealtRow, standIns := [], harness := (true, "2cd15914c1cc916fa85673181e1e7625814c33a0071ee3ea218290e15ea07353"), looks := true }, kinds := [], alts := [], laidByText := true, laidKinds := [.data], laidTests := true, laidLooks := .later }
def SerialDealtCardSaid : Prop := Claim7.holds Tryd.pinned (.plain (OpenSpec.ofChange serialDealtSpec)) serialDealtCard

/-- THE TIED CARD OF 'hayloftlaw09.SerialKeeps'. -/
def serialKeepsCard : Claim7 := { stood := { row := serialKeepsRow, standIns := [], harness := (true, "2cd15914c1cc916fa85673181e1e7625814c33a0071ee3ea218290e15ea07353"), looks := true }, kinds := [], alts := [], laidByText := true, laidKinds := [.data], laidTests := true, laidLooks := .later }
def SerialKeepsCardSaid : Prop := Claim7.holds Tryd.pinned (.plain (OpenSpec.ofChange serialKeepsSpec)) serialKeepsCard

/-- THE SECOND FORM's CARD OF 'hayloftlaw09.SerialRuns'. -/
def serialRunsUptoCard : Claim7 := { stood := { row := serialRunsUptoRow, standIns := [], harness := (true, "2cd15914c1cc916fa85673181e1e7625814c33a0071ee3ea218290e15ea07353"), looks := true }, kinds := [], alts := [], laidByText := true, laidKinds := [.data], laidTests := true, laidLooks := .later }
def SerialRunsUptoCardSaid : Prop := Claim7.holds Tryd.pinned (.plain (OpenSpec.upto serialRunsSpec)) serialRunsUptoCard

/-- THE SECOND FORM's CARD OF 'hayloftlaw09.SerialTrail'. -/
def serialTrailUptoCard : Claim7 := { stood := { row := serialTrailUptoRow, standIns := [], harness := (true, "2cd15914c1cc916fa85673181e1e7625814c33a0071ee3ea218290e15ea07353"), looks := true }, kinds := [], alts := [], laidByText := true, laidKinds := [.data], laidTests := true, laidLooks := .later }
def SerialTrailUptoCardSaid : Prop := Claim7.holds Tryd.pinned (.plain (OpenSpec.upto serialTrailSpec)) serialTrailUptoCard

/-- THE SECOND FORM's CARD OF 'hayloftlaw09.SerialNil'. -/
def serialNilUptoCard : Claim7 := { stood := { row := serialNilUptoRow, standIns := [], harness := (true, "2cd15914c1cc916fa85673181e1e7625814c33a0071ee3ea218290e15ea07353"), looks := true }, kinds := [], alts := [], laidByText := true, laidKinds := [.data], laidTests := true, laidLooks := .later }
def SerialNilUptoCardSaid : Prop := Claim7.holds Tryd.pinned (.plain (OpenSpec.upto serialNilSpec)) serialNilUptoCard

/-- THE SECOND FORM's CARD OF 'hayloftlaw09.SerialDealt'. -/
def serialDealtUptoCard : Claim7 := { stood := { row := serialDealtUptoRow, standIns := [], harness := (true, "2cd15914c1cc916fa85673181e1e7625814c33a0071ee3ea218290e15ea07353"), looks := true }, kinds := [], alts := [], laidByText := true, laidKinds := [.data], laidTests := true, laidLooks := .later }
def SerialDealtUptoCardSaid : Prop := Claim7.holds Tryd.pinned (.plain (OpenSpec.upto serialDealtSpec)) serialDealtUptoCard

/-- THE SECOND FORM's CARD OF 'hayloftlaw09.SerialKeeps'. -/
def serialKeepsUptoCard : Claim7 := { stood := { row := serialKeepsUptoRow, standIns := [], harness := (true, "2cd15914c1cc916fa85673181e1e7625814c33a0071ee3ea218290e15ea07353"), looks := true }, kinds := [], alts := [], laidByText := true, laidKinds := [.data], laidTests := true, laidLooks := .later }
def SerialKeepsUptoCardSaid : Prop := Claim7.holds Tryd.pinned (.plain (OpenSpec.upto serialKeepsSpec)) serialKeepsUptoCard
end Rows
end Go.Proofs.YtlnfhbkkodhmaaaDoor

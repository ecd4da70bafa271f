/-
  DERIVED. GIVEN WITH THE SEED: THE PROGRAM's TIES (one call each: nine closed facts by the kernel) AND EACH ROW's TIE, after the 31st guide's Derived/Test/Toyas{Tie, Card}.lean. No idea stands in it: it is a product of the set-up. Laid BY PROGRAM, IN A SANDBOX (cutbox-door.mjs). By AI agents, Wed Nov 11 2026. No macro, syntax, notation, axiom, sorry.
-/
import Derived.Test.YtldfjlepbbmhnaaDoorRows
import Derived.LaidByTextLater
import Derived.SevenTiedAt
import Derived.LaidSub
import Derived.LaidOnce
namespace Go.Proofs.YtldfjlepbbmhnaaDoor
open Go
set_option maxRecDepth 100000
theorem seatTie1 : Tryd.prog.laidByTextLater [("hayloft/table.unitsBounds", Rows.laid_hayloft_table_unitsBounds), ("hayloft/table.latBounds", Rows.laid_hayloft_table_latBounds), ("hayloft/table.busyBounds", Rows.laid_hayloft_table_busyBounds), ("hayloft/table.delayBounds", Rows.laid_hayloft_table_delayBounds)] [.wider, .wider, .wider, .wider] true :=
  Program.laidByTextLater_by_one 29 8 3 (by kernel_rfl) (by kernel_rfl) (by kernel_rfl) (by kernel_rfl) (by kernel_rfl) (by kernel_rfl) (fun _ _ => by kernel_rfl)
theorem noOwnUnsafe : Tryd.pinned.checked.prog.headLifts.contains "ownunsafe" = false := by kernel_rfl
theorem tie : Tryd.prog.laidByTextLater [("hayloft/table.unitsBounds", Rows.laid_hayloft_table_unitsBounds), ("hayloft/table.latBounds", Rows.laid_hayloft_table_latBounds), ("hayloft/table.busyBounds", Rows.laid_hayloft_table_busyBounds), ("hayloft/table.delayBounds", Rows.laid_hayloft_table_delayBounds)] [.wider, .wider, .wider, .wider] true :=
  Program.laidByTextLater.sub seatTie1 ["hayloft/table.unitsBounds", "hayloft/table.latBounds", "hayloft/table.busyBounds", "hayloft/table.delayBounds"] (by kernel_rfl) (by kernel_rfl)
theorem pipePlays_row_tie : Rows.pipePlaysRow.laidByTextAt .later Tryd.pinned [.wider, .wider, .wider, .wider] true :=
  OpenClaim.laidByTextAt_later rfl rfl tie noOwnUnsafe
theorem pipeParts_row_tie : Rows.pipePartsRow.laidByTextAt .later Tryd.pinned [.wider, .wider, .wider, .wider] true :=
  OpenClaim.laidByTextAt_later rfl rfl tie noOwnUnsafe
theorem pipeLands_row_tie : Rows.pipeLandsRow.laidByTextAt .later Tryd.pinned [.wider, .wider, .wider, .wider] true :=
  OpenClaim.laidByTextAt_later rfl rfl tie noOwnUnsafe
theorem pipeNil_row_tie : Rows.pipeNilRow.laidByTextAt .later Tryd.pinned [.wider, .wider, .wider, .wider] true :=
  OpenClaim.laidByTextAt_later rfl rfl tie noOwnUnsafe
theorem pipePlaysUpto_row_tie : Rows.pipePlaysUptoRow.laidByTextAt .later Tryd.pinned [.wider, .wider, .wider, .wider] true :=
  OpenClaim.laidByTextAt_later rfl rfl tie noOwnUnsafe
theorem pipePartsUpto_row_tie : Rows.pipePartsUptoRow.laidByTextAt .later Tryd.pinned [.wider, .wider, .wider, .wider] true :=
  OpenClaim.laidByTextAt_later rfl rfl tie noOwnUnsafe
theorem pipeLandsUpto_row_tie : Rows.pipeLandsUptoRow.laidByTextAt .later Tryd.pinned [.wider, .wider, .wider, .wider] true :=
  OpenClaim.laidByTextAt_later rfl rfl tie noOwnUnsafe
theorem pipeNilUpto_row_tie : Rows.pipeNilUptoRow.laidByTextAt .later Tryd.pinned [.wider, .wider, .wider, .wider] true :=
  OpenClaim.laidByTextAt_later rfl rfl tie noOwnUnsafe
end Go.Proofs.YtldfjlepbbmhnaaDoor

/-
  DERIVED. GIVEN WITH THE SEED: THE PROGRAM's TIES (one call each: nine closed facts by the kernel) AND EACH ROW's TIE, after the 31st guide's Derived/Test/Toyas{Tie, Card}.lean. No idea stands in it: it is a product of the set-up. Laid BY PROGRAM, IN A SANDBOX (cutbox-door.mjs). By AI agents, Wed Nov 11 2026. No macro, syntax, notation, axiom, sorry.
-/
import Derived.Test.YtiejdpjgplikjaaGreatDoorRows
import Derived.LaidByTextLater
import Derived.SevenTiedAt
import Derived.LaidSub
import Derived.LaidOnce
namespace Go.Proofs.YtiejdpjgplikjaaGreatDoor
open Go
set_option maxRecDepth 100000
theorem seatTie1 : Tryz.prog.laidByTextLater [("hayloft/table.unitsBounds", Rows.laid_hayloft_table_unitsBounds), ("hayloft/table.latBounds", Rows.laid_hayloft_table_latBounds), ("hayloft/table.busyBounds", Rows.laid_hayloft_table_busyBounds), ("hayloft/table.delayBounds", Rows.laid_hayloft_table_delayBounds)] [.wider, .wider, .wider, .wider] true :=
  Program.laidByTextLater_by_one 29 8 3 (by kernel_rfl) (by kernel_rfl) (by kernel_rfl) (by kernel_rfl) (by kernel_rfl) (by kernel_rfl) (fun _ _ => by kernel_rfl)
theorem noOwnUnsafe : Tryz.pinned.checked.prog.headLifts.contains "ownunsafe" = false := by kernel_rfl
theorem tie : Tryz.prog.laidByTextLater [("hayloft/table.unitsBounds", Rows.laid_hayloft_table_unitsBounds), ("hayloft/table.latBounds", Rows.laid_hayloft_table_latBounds), ("hayloft/table.busyBounds", Rows.laid_hayloft_table_busyBounds), ("hayloft/table.delayBounds", Rows.laid_hayloft_table_delayBounds)] [.wider, .wider, .wider, .wider] true :=
  Program.laidByTextLater.sub seatTie1 ["hayloft/table.unitsBounds", "hayloft/table.latBounds", "hayloft/table.busyBounds", "hayloft/table.delayBounds"] (by kernel_rfl) (by kernel_rfl)
theorem moduloFinds_row_tie : Rows.moduloFindsRow.laidByTextAt .later Tryz.pinned [.wider, .wider, .wider, .wider] true :=
  OpenClaim.laidByTextAt_later rfl rfl tie noOwnUnsafe
theorem topOverlap_row_tie : Rows.topOverlapRow.laidByTextAt .later Tryz.pinned [.wider, .wider, .wider, .wider] true :=
  OpenClaim.laidByTextAt_later rfl rfl tie noOwnUnsafe
theorem moduloFindsUpto_row_tie : Rows.moduloFindsUptoRow.laidByTextAt .later Tryz.pinned [.wider, .wider, .wider, .wider] true :=
  OpenClaim.laidByTextAt_later rfl rfl tie noOwnUnsafe
theorem topOverlapUpto_row_tie : Rows.topOverlapUptoRow.laidByTextAt .later Tryz.pinned [.wider, .wider, .wider, .wider] true :=
  OpenClaim.laidByTextAt_later rfl rfl tie noOwnUnsafe
end Go.Proofs.YtiejdpjgplikjaaGreatDoor

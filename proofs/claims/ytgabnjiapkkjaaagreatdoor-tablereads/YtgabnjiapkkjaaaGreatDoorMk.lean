/- What package table's makers of closures answer, read off the program by the walk. Conditions: none. -/
import Derived.Test.YtgabnjiapkkjaaaGreatDoorNu
namespace Go.Proofs.YtgabnjiapkkjaaaGreatDoor.Tb
open Go.ChangeShapes Go.WideShapes Go.ChangeAt Go.RowKit

theorem mk_nothing (w : World) : Calls Tryz.prog 50 #[] w fun e w' => e = .returned (.func (.func 69) #[] #[]) ∧ w' = w := by
  go_enter Tryz.func50, Tryz.ntmps50
  go_wp2
  go_ret
  exact ⟨rfl, rfl⟩
theorem mk_once (p : Addr) (w : World) : Calls Tryz.prog 51 #[.pointer (some p)] w fun e w' => e = .returned (.func (.func 70) #[] #[.pointer (some ⟨w.heap.size, 0, none⟩)]) ∧ w' = w.alloc (.cells #[.pointer (some p)] 121) := by
  go_enter Tryz.func51, Tryz.ntmps51
  go_wp2
  go_ret
  exact ⟨rfl, rfl⟩
theorem mk_number (p : Addr) (lo hi : Int) (w : World) : Calls Tryz.prog 52 #[.pointer (some p), .agg #[.int .i64 lo, .int .i64 hi]] w fun e w' => e = .returned (.func (.func 71) #[] #[.pointer (some ⟨w.heap.size + 1, 0, none⟩), .pointer (some ⟨w.heap.size, 0, none⟩)]) ∧ w' = (w.alloc (.cells #[.pointer (some p)] 123)).alloc (.cells #[.int .i64 lo, .int .i64 hi] 55) := by
  go_enter Tryz.func52, Tryz.ntmps52
  go_wp2
  go_ret
  exact ⟨rfl, rfl⟩
theorem mk_exactly (s : ByteArray) (w : World) : Calls Tryz.prog 53 #[.string s] w fun e w' => e = .returned (.func (.func 74) #[] #[.pointer (some ⟨w.heap.size, 0, none⟩)]) ∧ w' = w.alloc (.cells #[.string s] 9) := by
  go_enter Tryz.func53, Tryz.ntmps53
  go_wp2
  go_ret
  exact ⟨rfl, rfl⟩

end Go.Proofs.YtgabnjiapkkjaaaGreatDoor.Tb

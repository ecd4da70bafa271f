/- What each call of package bits answers, read off the program by the walk: the integers of the plain mathematics. Conditions: the words are from 0 to 2^64 - 1; places and widths are any. -/
import Derived.Test.YthdpgimdakmdgaaDoorProg
import Derived.Test.YthdpgimdakmdgaaDoorForms
import Derived.OpenShut
namespace Go.Proofs.YthdpgimdakmdgaaDoor.Op
open Go.ChangeShapes Go.WideShapes Go.ChangeAt Go.RowKit

theorem ret_bool {a b : Bool} (h : a = b) : Ending.returned (.bool a) = .returned (.bool b) := by rw [h]
theorem ret_int {k : IntKind} {a b : Int} (h : a = b) : Ending.returned (.int k a) = .returned (.int k b) := by rw [h]

theorem count_any (n : Int) (w : World) :
    Calls Tryd.prog 85 #[.int .i64 n] w fun e w' => e = .returned (.int .i64 (cl n)) ∧ w' = w := by
  go_enter Tryd.func85, Tryd.ntmps85
  go_wp2
  all_goals
    go_ret
    refine ⟨ret_int ?_, rfl⟩
    unfold cl
    split at * <;> (try split) <;> omega

theorem signed_any (x n : Int) (w : World) :
    Calls Tryd.prog 84 #[.int .u64 x, .int .i64 n] w fun e w' => e = .returned (.int .i64 (sgI x n)) ∧ w' = w := by
  have hlo := cl_lo n
  have hhi := cl_hi n
  have H : Hid _ := (sg_form x n)
  go_enter Tryd.func84, Tryd.ntmps84
  go_wp2_with (go_at_call 85; refine (count_any _ _).mono ?_; rintro e w' ⟨rfl, rfl⟩)
  go_ret
  exact ⟨ret_int (H.out), rfl⟩

theorem fits_any (x n : Int) (w : World) :
    Calls Tryd.prog 83 #[.int .i64 x, .int .i64 n] w fun e w' => e = .returned (.bool (fitsI x n)) ∧ w' = w := by
  have H : Hid _ := (fits_form x n)
  go_enter Tryd.func83, Tryd.ntmps83
  go_wp2_with (go_at_call 84; refine (signed_any _ _ _).mono ?_; rintro e w' ⟨rfl, rfl⟩)
  go_ret
  exact ⟨ret_bool (H.out), rfl⟩

end Go.Proofs.YthdpgimdakmdgaaDoor.Op

/- What each call of package bits answers, read off the program by the walk: the integers of the plain mathematics. Conditions: the words are from 0 to 2^64 - 1; places and widths are any. -/
import Derived.Test.YtnckkhamkkaljaaDoorProg
import Derived.Test.YtnckkhamkkaljaaDoorForms
import Derived.OpenShut
namespace Go.Proofs.YtnckkhamkkaljaaDoor.Op
open Go.ChangeShapes Go.WideShapes Go.ChangeAt Go.RowKit

theorem ret_bool {a b : Bool} (h : a = b) : Ending.returned (.bool a) = .returned (.bool b) := by rw [h]
theorem ret_int {k : IntKind} {a b : Int} (h : a = b) : Ending.returned (.int k a) = .returned (.int k b) := by rw [h]

theorem count_any (n : Int) (w : World) :
    Calls Tryd.prog 103 #[.int .i64 n] w fun e w' => e = .returned (.int .i64 (cl n)) ∧ w' = w := by
  go_enter Tryd.func103, Tryd.ntmps103
  go_wp2
  all_goals
    go_ret
    refine ⟨ret_int ?_, rfl⟩
    unfold cl
    split at * <;> (try split) <;> omega

theorem signed_any (x n : Int) (w : World) :
    Calls Tryd.prog 102 #[.int .u64 x, .int .i64 n] w fun e w' => e = .returned (.int .i64 (sgI x n)) ∧ w' = w := by
  have hlo := cl_lo n
  have hhi := cl_hi n
  have H : Hid _ := (sg_form x n)
  go_enter Tryd.func102, Tryd.ntmps102
  go_wp2_with (go_at_call 103; refine (count_any _ _).mono ?_; rintro e w' ⟨rfl, rfl⟩)
  go_ret
  exact ⟨ret_int (H.out), rfl⟩

theorem fits_any (x n : Int) (w : World) :
    Calls Tryd.prog 100 #[.int .i64 x, .int .i64 n] w fun e w' => e = .returned (.bool (fitsI x n)) ∧ w' = w := by
  have H : Hid _ := (fits_form x n)
  go_enter Tryd.func100, Tryd.ntmps100
  go_wp2_with (go_at_call 102; refine (signed_any _ _ _).mono ?_; rintro e w' ⟨rfl, rfl⟩)
  go_ret
  exact ⟨ret_bool (H.out), rfl⟩

end Go.Proofs.YtnckkhamkkaljaaDoor.Op

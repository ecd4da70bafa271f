/- Parts Xr. -/
import Derived.Test.YtpdaknbmcpmhjaaGreatDoorN47
import Derived.Test.YtpdaknbmcpmhjaaGreatDoorN48
set_option maxRecDepth 100000
namespace Go.Proofs.YtpdaknbmcpmhjaaGreatDoor.Pc
open Go.ChangeShapes Go.WideShapes Go.ChangeAt Go.RowKit
theorem ands {a b:Bool} (h:a=true) (g:b=true):(a&&b)=true:=by rw [h,g];rfl
theorem joined_facts:joinedFacts Tryz.checked.prog 8 Tryz.f8 Rows.packNumbersSpec Rows.packNumbersRow=true:=by
 unfold joinedFacts;exact ands (ands (ands (ands (ands (ands (ands (ands (ands (ands (ands (ands (ands (ands (ands (ands (ands (ands (ands (ands (ands (ands (ands (ands (ands (ands (ands (ands (ands (ands (ands j0 j1) j2) j3) j4) j5) j6) j7) j8) j9) j10) j11) j12) j13) j14) j15) j16) j17) j18) j19) j20) j21) j22) j23) j24) j25) j26) j27) j28) j29) j30) j31
theorem func_named:Tryz.checked.prog.funcNamed Rows.packNumbersRow.func=some 8:=by kernel_rfl
theorem numbers_row:Rows.PackNumbersSaid:=
 OpenClaim.holds_of_wide 8 Tryz.f8 rfl rfl rfl rfl rfl rfl rfl ⟨rfl,rfl,rfl,rfl,rfl⟩ rfl rfl rfl rfl rfl func_named Tryz.func8 joined_facts
  (of_decide_eq_true (by kernel_rfl)) (by unfold Func.isWrapper;first|(rw [if_pos (by decide +kernel)];kernel_rfl)|(rw [if_neg (by decide +kernel)];exact ⟨rfl,rfl⟩))
  (fun os started H enc _=>numbers_lifted os started H enc)
end Go.Proofs.YtpdaknbmcpmhjaaGreatDoor.Pc

/- Parts Xw. -/
import Derived.Test.YtpdaknbmcpmhjaaGreatDoorCards
import Derived.SevenTiedAt
import Derived.KernelRfl
set_option maxRecDepth 100000
namespace Go.Proofs.YtpdaknbmcpmhjaaGreatDoor.Pc
theorem k_wf:Rows.packNumbersRow.wfByText (OpenSpec.ofChange Rows.packNumbersSpec)=true:=by kernel_rfl
theorem k_main:Tryz.checked.prog.mainIs=some (true,("66b123407f217b2ba3d244527f7a9966d1dfdfc5df4bf92c8a439ddca2a81836" : String).toList):=by kernel_rfl
theorem k_named:Tryz.prog.funcNamed "hayloft/hayloftlaw21.PackNumbers" = some 8:=by kernel_rfl
theorem k_looks:false=Tryz.checked.prog.looks []:=by kernel_rfl
theorem k_stand:([73,27].all fun u=>!Tryz.prog.wantsStandIn u)=true:=by kernel_rfl
theorem k_goes:false=Rows.packNumbersRow.goesBy Tryz.checked.prog:=by kernel_rfl
end Go.Proofs.YtpdaknbmcpmhjaaGreatDoor.Pc

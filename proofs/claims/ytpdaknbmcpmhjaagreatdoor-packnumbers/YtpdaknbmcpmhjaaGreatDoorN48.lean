/- Parts Xu Xv. -/
import Derived.Test.YtpdaknbmcpmhjaaGreatDoorRows
import Derived.JoinedOf
import Derived.KernelRfl
set_option maxRecDepth 100000
namespace Go.Proofs.YtpdaknbmcpmhjaaGreatDoor.Pc
theorem j0:(Rows.packNumbersRow.wf (OpenSpec.ofChange Rows.packNumbersSpec))=true:=by kernel_rfl
theorem j1:(laidOutB Tryz.checked.prog)=true:=by kernel_rfl
theorem j2:(mapsRowed Tryz.checked.prog)=true:=by kernel_rfl
theorem j3:(Tryz.f8.params.all (Tryz.checked.prog.readableRec ·))=true:=by kernel_rfl
theorem j4:(namedTie Tryz.checked.prog Rows.packNumbersRow.named Rows.packNumbersSpec.vars)=true:=by kernel_rfl
theorem j5:((Rows.packNumbersRow.stops==[]))=true:=by kernel_rfl
theorem j6:((Tryz.checked.prog.stops==[]))=true:=by kernel_rfl
theorem j7:((Rows.packNumbersRow.knobs==[]))=true:=by kernel_rfl
theorem j8:((Tryz.checked.prog.stopKnobs==[]))=true:=by kernel_rfl
theorem j13:((Rows.packNumbersRow.maps==(Tryz.f8.params.toList++Rows.packNumbersSpec.plain.varTypes Tryz.checked.prog).any (Tryz.checked.prog.mapsRec ·)))=true:=by kernel_rfl
theorem j14:((Rows.packNumbersRow.ifaces==(Tryz.f8.params.toList++Rows.packNumbersSpec.plain.varTypes Tryz.checked.prog).any (Tryz.checked.prog.ifacesRec ·)))=true:=by kernel_rfl
theorem j15:((Rows.packNumbersRow.mapsOut==Tryz.checked.prog.mapsAmong Tryz.f8.resultTypes.toList))=true:=by kernel_rfl
theorem j16:((Rows.packNumbersRow.loops==(Tryz.f8.params.toList++Rows.packNumbersSpec.plain.varTypes Tryz.checked.prog).any (Tryz.checked.prog.loopsFrom ·)))=true:=by kernel_rfl
theorem j17:((Rows.packNumbersRow.wideKeys==(Tryz.f8.params.toList++Rows.packNumbersSpec.plain.varTypes Tryz.checked.prog++Tryz.f8.resultTypes.toList).any (Tryz.checked.prog.wideKeysFrom ·)))=true:=by kernel_rfl
theorem j18:(Rows.packNumbersSpec.vars.all (Tryz.checked.prog.varReadable ·))=true:=by kernel_rfl
theorem j19:(Tryz.f8.resultTypes.all (fun t=>Tryz.checked.prog.readableRec t&&decide (t<Tryz.checked.prog.types.size)))=true:=by kernel_rfl
theorem j20:((Rows.packNumbersRow.ifacesOut==Tryz.f8.resultTypes.toList.any (Tryz.checked.prog.ifacesRec ·)))=true:=by kernel_rfl
theorem j21:((Rows.packNumbersRow.loopsOut==Tryz.f8.resultTypes.toList.any (Tryz.checked.prog.loopsFrom ·)))=true:=by kernel_rfl
theorem j22:((Rows.packNumbersRow.plainKeys==Tryz.checked.prog.plainKeys))=true:=by kernel_rfl
theorem j23:(Rows.packNumbersRow.shortTexts.isNone)=true:=by kernel_rfl
theorem j24:(Tryz.checked.prog.stopsHeard)=true:=by kernel_rfl
theorem j25:(Tryz.checked.prog.mayEnter)=true:=by kernel_rfl
theorem j26:((Rows.packNumbersRow.lifted==Tryz.checked.prog.liftsFinal))=true:=by kernel_rfl
theorem j27:((Tryz.checked.prog.make==some Rows.packNumbersRow.make))=true:=by kernel_rfl
theorem j28:((Rows.packNumbersRow.kinds==(if Rows.packNumbersRow.domain.isEmpty then [] else Tryz.f8.params.toList.map fun t=>match Tryz.checked.prog.underlying t with|some (.int k)=>some k|_=>none)))=true:=by kernel_rfl
theorem j29:((Rows.packNumbersRow.pinned==Rows.packNumbersRow.pinnedBy))=true:=by kernel_rfl
theorem j30:((Rows.packNumbersRow.veiled==(Tryz.f8.params.toList++Rows.packNumbersSpec.plain.varTypes Tryz.checked.prog++Tryz.f8.resultTypes.toList).any (Tryz.checked.prog.veiledRec ·)))=true:=by kernel_rfl
theorem j31:(Rows.packNumbersRow.veiledFits Tryz.checked.prog Tryz.f8.params.toList (Tryz.f8.params.toList++Rows.packNumbersSpec.plain.varTypes Tryz.checked.prog++Tryz.f8.resultTypes.toList))=true:=by kernel_rfl
theorem j9:((Rows.packNumbersRow.inPlace==Tryz.checked.prog.inPlace 8))=true:=by kernel_rfl
theorem j10:((Rows.packNumbersRow.unfollowed==Tryz.checked.prog.unfollowed 8))=true:=by kernel_rfl
theorem j11:((Rows.packNumbersRow.recurses==Tryz.checked.prog.recurses 8))=true:=by kernel_rfl
theorem j12:((Rows.packNumbersRow.named==Tryz.checked.prog.varsNamed 8))=true:=by kernel_rfl
end Go.Proofs.YtpdaknbmcpmhjaaGreatDoor.Pc

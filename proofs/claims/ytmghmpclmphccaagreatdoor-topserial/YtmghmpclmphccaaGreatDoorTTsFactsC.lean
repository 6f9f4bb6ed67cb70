/- -/
import Derived.Test.YtmghmpclmphccaaGreatDoorRows
import Derived.ProofKit
import Derived.LaidLaws
import Derived.JoinedCond
import Derived.SevenTiedAt
namespace Go.Proofs.YtmghmpclmphccaaGreatDoor
open Go.ChangeShapes Go.WideShapes Go.ChangeAt Go.RowKit
theorem tz_k1:Rows.topSerialRow.wf (OpenSpec.ofChange Rows.topSerialSpec)=true:=by kernel_rfl
theorem tz_k2:laidOutB Tryz.prog=true:=by kernel_rfl
theorem tz_k3:mapsRowed Tryz.prog=true:=by kernel_rfl
theorem tz_k4:Tryz.f3.params.all (Tryz.prog.readableRec ·)=true:=by kernel_rfl
theorem tz_k5:namedTie Tryz.prog Rows.topSerialRow.named Rows.topSerialSpec.vars=true:=by kernel_rfl
theorem tz_k6:(Rows.topSerialRow.stops == [])=true:=by kernel_rfl
theorem tz_k7:(Tryz.prog.stops == [])=true:=by kernel_rfl
theorem tz_k8:(Rows.topSerialRow.knobs == [])=true:=by kernel_rfl
theorem tz_k9:(Tryz.prog.stopKnobs == [])=true:=by kernel_rfl
theorem tz_k14:(Rows.topSerialRow.maps==(Tryz.f3.params.toList++Rows.topSerialSpec.plain.varTypes Tryz.prog).any (Tryz.prog.mapsRec ·))=true:=by kernel_rfl
theorem tz_k15:(Rows.topSerialRow.ifaces==(Tryz.f3.params.toList++Rows.topSerialSpec.plain.varTypes Tryz.prog).any (Tryz.prog.ifacesRec ·))=true:=by kernel_rfl
theorem tz_k16:(Rows.topSerialRow.mapsOut==Tryz.prog.mapsAmong Tryz.f3.resultTypes.toList)=true:=by kernel_rfl
theorem tz_k17:(Rows.topSerialRow.loops==(Tryz.f3.params.toList++Rows.topSerialSpec.plain.varTypes Tryz.prog).any (Tryz.prog.loopsFrom ·))=true:=by kernel_rfl
theorem tz_k18:(Rows.topSerialRow.wideKeys==(Tryz.f3.params.toList++Rows.topSerialSpec.plain.varTypes Tryz.prog++Tryz.f3.resultTypes.toList).any (Tryz.prog.wideKeysFrom ·))=true:=by kernel_rfl
theorem tz_k19:Rows.topSerialSpec.vars.all (Tryz.prog.varReadable ·)=true:=by kernel_rfl
theorem tz_k20:Tryz.f3.resultTypes.all (fun t=>Tryz.prog.readableRec t&&decide (t<Tryz.prog.types.size))=true:=by kernel_rfl
theorem tz_k21:(Rows.topSerialRow.ifacesOut==Tryz.f3.resultTypes.toList.any (Tryz.prog.ifacesRec ·))=true:=by kernel_rfl
theorem tz_k22:(Rows.topSerialRow.loopsOut==Tryz.f3.resultTypes.toList.any (Tryz.prog.loopsFrom ·))=true:=by kernel_rfl
theorem tz_k23:(Rows.topSerialRow.plainKeys==Tryz.prog.plainKeys)=true:=by kernel_rfl
theorem tz_k24:Rows.topSerialRow.shortTexts.isNone=true:=by kernel_rfl
theorem tz_k25:Tryz.prog.stopsHeard=true:=by kernel_rfl
theorem tz_k26:Tryz.prog.mayEnter=true:=by kernel_rfl
theorem tz_k27:(Rows.topSerialRow.lifted==Tryz.prog.liftsFinal)=true:=by kernel_rfl
theorem tz_k28:(Tryz.prog.make==some Rows.topSerialRow.make)=true:=by kernel_rfl
theorem tz_k29:(Rows.topSerialRow.kinds==(if Rows.topSerialRow.domain.isEmpty then [] else Tryz.f3.params.toList.map fun t=>match Tryz.prog.underlying t with|some (.int k)=>some k|_=>none))=true:=by kernel_rfl
theorem tz_k30:(Rows.topSerialRow.pinned==Rows.topSerialRow.pinnedBy)=true:=by kernel_rfl
theorem tz_k31:(Rows.topSerialRow.veiled==(Tryz.f3.params.toList++Rows.topSerialSpec.plain.varTypes Tryz.prog++Tryz.f3.resultTypes.toList).any (Tryz.prog.veiledRec ·))=true:=by kernel_rfl
theorem tz_k32:Rows.topSerialRow.veiledFits Tryz.prog Tryz.f3.params.toList (Tryz.f3.params.toList++Rows.topSerialSpec.plain.varTypes Tryz.prog++Tryz.f3.resultTypes.toList)=true:=by kernel_rfl
theorem tz_fn:Tryz.pinned.checked.prog.funcNamed Rows.topSerialRow.func=some 3:=by kernel_rfl
theorem tz_inst:Tryz.f3.isInstance Tryz.pinned.checked.prog Rows.topSerialRow.origin Rows.topSerialRow.targs:=of_decide_eq_true (by kernel_rfl)
theorem tz_wrap:Tryz.f3.isWrapper Tryz.pinned.checked.prog Rows.topSerialRow.wrapper Rows.topSerialRow.mainSum:=by unfold Func.isWrapper;rw[if_neg (of_decide_eq_false (by kernel_rfl))];exact⟨rfl,rfl⟩
theorem tz_wfby:Rows.topSerialRow.wfByText (OpenSpec.ofChange Rows.topSerialSpec)=true:=by kernel_rfl
end Go.Proofs.YtmghmpclmphccaaGreatDoor

/- -/
import Derived.Test.YtmghmpclmphccaaGreatDoorRows
import Derived.ProofKit
import Derived.LaidLaws
import Derived.JoinedCond
import Derived.SevenTiedAt
namespace Go.Proofs.YtmghmpclmphccaaGreatDoor
open Go.ChangeShapes Go.WideShapes Go.ChangeAt Go.RowKit
theorem kp_k1:Rows.topKeptRow.wf (OpenSpec.ofChange Rows.topKeptSpec)=true:=by kernel_rfl
theorem kp_k2:laidOutB Tryz.prog=true:=by kernel_rfl
theorem kp_k3:mapsRowed Tryz.prog=true:=by kernel_rfl
theorem kp_k4:Tryz.f5.params.all (Tryz.prog.readableRec ·)=true:=by kernel_rfl
theorem kp_k5:namedTie Tryz.prog Rows.topKeptRow.named Rows.topKeptSpec.vars=true:=by kernel_rfl
theorem kp_k6:(Rows.topKeptRow.stops == [])=true:=by kernel_rfl
theorem kp_k7:(Tryz.prog.stops == [])=true:=by kernel_rfl
theorem kp_k8:(Rows.topKeptRow.knobs == [])=true:=by kernel_rfl
theorem kp_k9:(Tryz.prog.stopKnobs == [])=true:=by kernel_rfl
theorem kp_k14:(Rows.topKeptRow.maps==(Tryz.f5.params.toList++Rows.topKeptSpec.plain.varTypes Tryz.prog).any (Tryz.prog.mapsRec ·))=true:=by kernel_rfl
theorem kp_k15:(Rows.topKeptRow.ifaces==(Tryz.f5.params.toList++Rows.topKeptSpec.plain.varTypes Tryz.prog).any (Tryz.prog.ifacesRec ·))=true:=by kernel_rfl
theorem kp_k16:(Rows.topKeptRow.mapsOut==Tryz.prog.mapsAmong Tryz.f5.resultTypes.toList)=true:=by kernel_rfl
theorem kp_k17:(Rows.topKeptRow.loops==(Tryz.f5.params.toList++Rows.topKeptSpec.plain.varTypes Tryz.prog).any (Tryz.prog.loopsFrom ·))=true:=by kernel_rfl
theorem kp_k18:(Rows.topKeptRow.wideKeys==(Tryz.f5.params.toList++Rows.topKeptSpec.plain.varTypes Tryz.prog++Tryz.f5.resultTypes.toList).any (Tryz.prog.wideKeysFrom ·))=true:=by kernel_rfl
theorem kp_k19:Rows.topKeptSpec.vars.all (Tryz.prog.varReadable ·)=true:=by kernel_rfl
theorem kp_k20:Tryz.f5.resultTypes.all (fun t=>Tryz.prog.readableRec t&&decide (t<Tryz.prog.types.size))=true:=by kernel_rfl
theorem kp_k21:(Rows.topKeptRow.ifacesOut==Tryz.f5.resultTypes.toList.any (Tryz.prog.ifacesRec ·))=true:=by kernel_rfl
theorem kp_k22:(Rows.topKeptRow.loopsOut==Tryz.f5.resultTypes.toList.any (Tryz.prog.loopsFrom ·))=true:=by kernel_rfl
theorem kp_k23:(Rows.topKeptRow.plainKeys==Tryz.prog.plainKeys)=true:=by kernel_rfl
theorem kp_k24:Rows.topKeptRow.shortTexts.isNone=true:=by kernel_rfl
theorem kp_k25:Tryz.prog.stopsHeard=true:=by kernel_rfl
theorem kp_k26:Tryz.prog.mayEnter=true:=by kernel_rfl
theorem kp_k27:(Rows.topKeptRow.lifted==Tryz.prog.liftsFinal)=true:=by kernel_rfl
theorem kp_k28:(Tryz.prog.make==some Rows.topKeptRow.make)=true:=by kernel_rfl
theorem kp_k29:(Rows.topKeptRow.kinds==(if Rows.topKeptRow.domain.isEmpty then [] else Tryz.f5.params.toList.map fun t=>match Tryz.prog.underlying t with|some (.int k)=>some k|_=>none))=true:=by kernel_rfl
theorem kp_k30:(Rows.topKeptRow.pinned==Rows.topKeptRow.pinnedBy)=true:=by kernel_rfl
theorem kp_k31:(Rows.topKeptRow.veiled==(Tryz.f5.params.toList++Rows.topKeptSpec.plain.varTypes Tryz.prog++Tryz.f5.resultTypes.toList).any (Tryz.prog.veiledRec ·))=true:=by kernel_rfl
theorem kp_k32:Rows.topKeptRow.veiledFits Tryz.prog Tryz.f5.params.toList (Tryz.f5.params.toList++Rows.topKeptSpec.plain.varTypes Tryz.prog++Tryz.f5.resultTypes.toList)=true:=by kernel_rfl
theorem kp_fn:Tryz.pinned.checked.prog.funcNamed Rows.topKeptRow.func=some 5:=by kernel_rfl
theorem kp_inst:Tryz.f5.isInstance Tryz.pinned.checked.prog Rows.topKeptRow.origin Rows.topKeptRow.targs:=of_decide_eq_true (by kernel_rfl)
theorem kp_wrap:Tryz.f5.isWrapper Tryz.pinned.checked.prog Rows.topKeptRow.wrapper Rows.topKeptRow.mainSum:=by unfold Func.isWrapper;rw[if_neg (of_decide_eq_false (by kernel_rfl))];exact⟨rfl,rfl⟩
theorem kp_wfby:Rows.topKeptRow.wfByText (OpenSpec.ofChange Rows.topKeptSpec)=true:=by kernel_rfl
end Go.Proofs.YtmghmpclmphccaaGreatDoor

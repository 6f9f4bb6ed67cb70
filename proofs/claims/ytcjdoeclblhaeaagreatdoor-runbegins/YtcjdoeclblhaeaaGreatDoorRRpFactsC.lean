/- -/
import Derived.Test.YtcjdoeclblhaeaaGreatDoorRows
import Derived.ProofKit
import Derived.LaidLaws
import Derived.JoinedCond
import Derived.SevenTiedAt
namespace Go.Proofs.YtcjdoeclblhaeaaGreatDoor
open Go.ChangeShapes Go.WideShapes Go.ChangeAt Go.RowKit
theorem rp_k1:Rows.runBeginsRow.wf (OpenSpec.ofChange Rows.runBeginsSpec)=true:=by kernel_rfl
theorem rp_k2:laidOutB Tryz.prog=true:=by kernel_rfl
theorem rp_k3:mapsRowed Tryz.prog=true:=by kernel_rfl
theorem rp_k4:Tryz.f3.params.all (Tryz.prog.readableRec ·)=true:=by kernel_rfl
theorem rp_k5:namedTie Tryz.prog Rows.runBeginsRow.named Rows.runBeginsSpec.vars=true:=by kernel_rfl
theorem rp_k6:(Rows.runBeginsRow.stops == [])=true:=by kernel_rfl
theorem rp_k7:(Tryz.prog.stops == [])=true:=by kernel_rfl
theorem rp_k8:(Rows.runBeginsRow.knobs == [])=true:=by kernel_rfl
theorem rp_k9:(Tryz.prog.stopKnobs == [])=true:=by kernel_rfl
theorem rp_k14:(Rows.runBeginsRow.maps==(Tryz.f3.params.toList++Rows.runBeginsSpec.plain.varTypes Tryz.prog).any (Tryz.prog.mapsRec ·))=true:=by kernel_rfl
theorem rp_k15:(Rows.runBeginsRow.ifaces==(Tryz.f3.params.toList++Rows.runBeginsSpec.plain.varTypes Tryz.prog).any (Tryz.prog.ifacesRec ·))=true:=by kernel_rfl
theorem rp_k16:(Rows.runBeginsRow.mapsOut==Tryz.prog.mapsAmong Tryz.f3.resultTypes.toList)=true:=by kernel_rfl
theorem rp_k17:(Rows.runBeginsRow.loops==(Tryz.f3.params.toList++Rows.runBeginsSpec.plain.varTypes Tryz.prog).any (Tryz.prog.loopsFrom ·))=true:=by kernel_rfl
theorem rp_k18:(Rows.runBeginsRow.wideKeys==(Tryz.f3.params.toList++Rows.runBeginsSpec.plain.varTypes Tryz.prog++Tryz.f3.resultTypes.toList).any (Tryz.prog.wideKeysFrom ·))=true:=by kernel_rfl
theorem rp_k19:Rows.runBeginsSpec.vars.all (Tryz.prog.varReadable ·)=true:=by kernel_rfl
theorem rp_k20:Tryz.f3.resultTypes.all (fun t=>Tryz.prog.readableRec t&&decide (t<Tryz.prog.types.size))=true:=by kernel_rfl
theorem rp_k21:(Rows.runBeginsRow.ifacesOut==Tryz.f3.resultTypes.toList.any (Tryz.prog.ifacesRec ·))=true:=by kernel_rfl
theorem rp_k22:(Rows.runBeginsRow.loopsOut==Tryz.f3.resultTypes.toList.any (Tryz.prog.loopsFrom ·))=true:=by kernel_rfl
theorem rp_k23:(Rows.runBeginsRow.plainKeys==Tryz.prog.plainKeys)=true:=by kernel_rfl
theorem rp_k24:Rows.runBeginsRow.shortTexts.isNone=true:=by kernel_rfl
theorem rp_k25:Tryz.prog.stopsHeard=true:=by kernel_rfl
theorem rp_k26:Tryz.prog.mayEnter=true:=by kernel_rfl
theorem rp_k27:(Rows.runBeginsRow.lifted==Tryz.prog.liftsFinal)=true:=by kernel_rfl
theorem rp_k28:(Tryz.prog.make==some Rows.runBeginsRow.make)=true:=by kernel_rfl
theorem rp_k29:(Rows.runBeginsRow.kinds==(if Rows.runBeginsRow.domain.isEmpty then [] else Tryz.f3.params.toList.map fun t=>match Tryz.prog.underlying t with|some (.int k)=>some k|_=>none))=true:=by kernel_rfl
theorem rp_k30:(Rows.runBeginsRow.pinned==Rows.runBeginsRow.pinnedBy)=true:=by kernel_rfl
theorem rp_k31:(Rows.runBeginsRow.veiled==(Tryz.f3.params.toList++Rows.runBeginsSpec.plain.varTypes Tryz.prog++Tryz.f3.resultTypes.toList).any (Tryz.prog.veiledRec ·))=true:=by kernel_rfl
theorem rp_k32:Rows.runBeginsRow.veiledFits Tryz.prog Tryz.f3.params.toList (Tryz.f3.params.toList++Rows.runBeginsSpec.plain.varTypes Tryz.prog++Tryz.f3.resultTypes.toList)=true:=by kernel_rfl
theorem rp_fn:Tryz.pinned.checked.prog.funcNamed Rows.runBeginsRow.func=some 3:=by kernel_rfl
theorem rp_inst:Tryz.f3.isInstance Tryz.pinned.checked.prog Rows.runBeginsRow.origin Rows.runBeginsRow.targs:=of_decide_eq_true (by kernel_rfl)
theorem rp_wrap:Tryz.f3.isWrapper Tryz.pinned.checked.prog Rows.runBeginsRow.wrapper Rows.runBeginsRow.mainSum:=by unfold Func.isWrapper;rw[if_neg (of_decide_eq_false (by kernel_rfl))];exact⟨rfl,rfl⟩
theorem rp_wfby:Rows.runBeginsRow.wfByText (OpenSpec.ofChange Rows.runBeginsSpec)=true:=by kernel_rfl
end Go.Proofs.YtcjdoeclblhaeaaGreatDoor

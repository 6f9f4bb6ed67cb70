/- -/
import Derived.Test.YtmghmpclmphccaaGreatDoorRows
import Derived.ProofKit
import Derived.SevenTiedAt
namespace Go.Proofs.YtmghmpclmphccaaGreatDoor
open Go.ChangeShapes Go.WideShapes Go.ChangeAt Go.RowKit
theorem ahS:Rows.topGrantsRow.wf (OpenSpec.ofChange Rows.topGrantsSpec)=true:=by kernel_rfl
theorem ahO:laidOutB Tryz.prog=true:=by kernel_rfl
theorem ahD:mapsRowed Tryz.prog=true:=by kernel_rfl
theorem ahJ:Tryz.f4.params.all (Tryz.prog.readableRec ·)=true:=by kernel_rfl
theorem ahF:namedTie Tryz.prog Rows.topGrantsRow.named Rows.topGrantsSpec.vars=true:=by kernel_rfl
theorem ahE:(Rows.topGrantsRow.stops == [])=true:=by kernel_rfl
theorem agB:(Tryz.prog.stops == [])=true:=by kernel_rfl
theorem ag8:(Rows.topGrantsRow.knobs == [])=true:=by kernel_rfl
theorem ahh:(Tryz.prog.stopKnobs == [])=true:=by kernel_rfl
theorem afi:(Rows.topGrantsRow.maps==(Tryz.f4.params.toList++Rows.topGrantsSpec.plain.varTypes Tryz.prog).any (Tryz.prog.mapsRec ·))=true:=by kernel_rfl
theorem aeW:(Rows.topGrantsRow.ifaces==(Tryz.f4.params.toList++Rows.topGrantsSpec.plain.varTypes Tryz.prog).any (Tryz.prog.ifacesRec ·))=true:=by kernel_rfl
theorem afO:(Rows.topGrantsRow.mapsOut==Tryz.prog.mapsAmong Tryz.f4.resultTypes.toList)=true:=by kernel_rfl
theorem afd:(Rows.topGrantsRow.loops==(Tryz.f4.params.toList++Rows.topGrantsSpec.plain.varTypes Tryz.prog).any (Tryz.prog.loopsFrom ·))=true:=by kernel_rfl
theorem agf:(Rows.topGrantsRow.wideKeys==(Tryz.f4.params.toList++Rows.topGrantsSpec.plain.varTypes Tryz.prog++Tryz.f4.resultTypes.toList).any (Tryz.prog.wideKeysFrom ·))=true:=by kernel_rfl
theorem agp:Rows.topGrantsSpec.vars.all (Tryz.prog.varReadable ·)=true:=by kernel_rfl
theorem afb:Tryz.f4.resultTypes.all (fun t=>Tryz.prog.readableRec t&&decide (t<Tryz.prog.types.size))=true:=by kernel_rfl
theorem ad9:(Rows.topGrantsRow.ifacesOut==Tryz.f4.resultTypes.toList.any (Tryz.prog.ifacesRec ·))=true:=by kernel_rfl
theorem ad3:(Rows.topGrantsRow.loopsOut==Tryz.f4.resultTypes.toList.any (Tryz.prog.loopsFrom ·))=true:=by kernel_rfl
theorem aeo:(Rows.topGrantsRow.plainKeys==Tryz.prog.plainKeys)=true:=by kernel_rfl
theorem aei:Rows.topGrantsRow.shortTexts.isNone=true:=by kernel_rfl
theorem aea:Tryz.prog.stopsHeard=true:=by kernel_rfl
theorem agw:Tryz.prog.mayEnter=true:=by kernel_rfl
theorem aeu:(Rows.topGrantsRow.lifted==Tryz.prog.liftsFinal)=true:=by kernel_rfl
theorem afE:(Tryz.prog.make==some Rows.topGrantsRow.make)=true:=by kernel_rfl
theorem aem:(Rows.topGrantsRow.kinds==(if Rows.topGrantsRow.domain.isEmpty then [] else Tryz.f4.params.toList.map fun t=>match Tryz.prog.underlying t with|some (.int k)=>some k|_=>none))=true:=by kernel_rfl
theorem af6:(Rows.topGrantsRow.pinned==Rows.topGrantsRow.pinnedBy)=true:=by kernel_rfl
theorem afA:(Rows.topGrantsRow.veiled==(Tryz.f4.params.toList++Rows.topGrantsSpec.plain.varTypes Tryz.prog++Tryz.f4.resultTypes.toList).any (Tryz.prog.veiledRec ·))=true:=by kernel_rfl
theorem agh:Rows.topGrantsRow.veiledFits Tryz.prog Tryz.f4.params.toList (Tryz.f4.params.toList++Rows.topGrantsSpec.plain.varTypes Tryz.prog++Tryz.f4.resultTypes.toList)=true:=by kernel_rfl
theorem agD:Tryz.pinned.checked.prog.funcNamed Rows.topGrantsRow.func=some 4:=by kernel_rfl
theorem acO:Tryz.f4.isInstance Tryz.pinned.checked.prog Rows.topGrantsRow.origin Rows.topGrantsRow.targs:=of_decide_eq_true (by kernel_rfl)
theorem acr:Tryz.f4.isWrapper Tryz.pinned.checked.prog Rows.topGrantsRow.wrapper Rows.topGrantsRow.mainSum:=by unfold Func.isWrapper;rw[if_neg (of_decide_eq_false (by kernel_rfl))];exact⟨rfl,rfl⟩
theorem aaM:Rows.topGrantsRow.wfByText (OpenSpec.ofChange Rows.topGrantsSpec)=true:=by kernel_rfl

/- -/
import Derived.Test.YtmghmpclmphccaaGreatDoorRows
import Derived.ProofKit
import Derived.SevenTiedAt
namespace Go.Proofs.YtmghmpclmphccaaGreatDoor
open Go.ChangeShapes Go.WideShapes Go.ChangeAt Go.RowKit
theorem ag9:Rows.topGrantsRow.wf (OpenSpec.ofChange Rows.topGrantsSpec)=true:=by kernel_rfl
theorem ahu:laidOutB Tryz.prog=true:=by kernel_rfl
theorem agW:mapsRowed Tryz.prog=true:=by kernel_rfl
theorem ahk:Tryz.f4.params.all (Tryz.prog.readableRec ·)=true:=by kernel_rfl
theorem ahM:namedTie Tryz.prog Rows.topGrantsRow.named Rows.topGrantsSpec.vars=true:=by kernel_rfl
theorem agP:(Rows.topGrantsRow.stops == [])=true:=by kernel_rfl
theorem ag5:(Tryz.prog.stops == [])=true:=by kernel_rfl
theorem ahD:(Rows.topGrantsRow.knobs == [])=true:=by kernel_rfl
theorem agU:(Tryz.prog.stopKnobs == [])=true:=by kernel_rfl
theorem agz:(Rows.topGrantsRow.maps==(Tryz.f4.params.toList++Rows.topGrantsSpec.plain.varTypes Tryz.prog).any (Tryz.prog.mapsRec ·))=true:=by kernel_rfl
theorem afI:(Rows.topGrantsRow.ifaces==(Tryz.f4.params.toList++Rows.topGrantsSpec.plain.varTypes Tryz.prog).any (Tryz.prog.ifacesRec ·))=true:=by kernel_rfl
theorem afG:(Rows.topGrantsRow.mapsOut==Tryz.prog.mapsAmong Tryz.f4.resultTypes.toList)=true:=by kernel_rfl
theorem agw:(Rows.topGrantsRow.loops==(Tryz.f4.params.toList++Rows.topGrantsSpec.plain.varTypes Tryz.prog).any (Tryz.prog.loopsFrom ·))=true:=by kernel_rfl
theorem afm:(Rows.topGrantsRow.wideKeys==(Tryz.f4.params.toList++Rows.topGrantsSpec.plain.varTypes Tryz.prog++Tryz.f4.resultTypes.toList).any (Tryz.prog.wideKeysFrom ·))=true:=by kernel_rfl
theorem afo:Rows.topGrantsSpec.vars.all (Tryz.prog.varReadable ·)=true:=by kernel_rfl
theorem aeh:Tryz.f4.resultTypes.all (fun t=>Tryz.prog.readableRec t&&decide (t<Tryz.prog.types.size))=true:=by kernel_rfl
theorem aer:(Rows.topGrantsRow.ifacesOut==Tryz.f4.resultTypes.toList.any (Tryz.prog.ifacesRec ·))=true:=by kernel_rfl
theorem aee:(Rows.topGrantsRow.loopsOut==Tryz.f4.resultTypes.toList.any (Tryz.prog.loopsFrom ·))=true:=by kernel_rfl
theorem afF:(Rows.topGrantsRow.plainKeys==Tryz.prog.plainKeys)=true:=by kernel_rfl
theorem agd:Rows.topGrantsRow.shortTexts.isNone=true:=by kernel_rfl
theorem agv:Tryz.prog.stopsHeard=true:=by kernel_rfl
theorem aeK:Tryz.prog.mayEnter=true:=by kernel_rfl
theorem aei:(Rows.topGrantsRow.lifted==Tryz.prog.liftsFinal)=true:=by kernel_rfl
theorem afN:(Tryz.prog.make==some Rows.topGrantsRow.make)=true:=by kernel_rfl
theorem aez:(Rows.topGrantsRow.kinds==(if Rows.topGrantsRow.domain.isEmpty then [] else Tryz.f4.params.toList.map fun t=>match Tryz.prog.underlying t with|some (.int k)=>some k|_=>none))=true:=by kernel_rfl
theorem aep:(Rows.topGrantsRow.pinned==Rows.topGrantsRow.pinnedBy)=true:=by kernel_rfl
theorem aef:(Rows.topGrantsRow.veiled==(Tryz.f4.params.toList++Rows.topGrantsSpec.plain.varTypes Tryz.prog++Tryz.f4.resultTypes.toList).any (Tryz.prog.veiledRec ·))=true:=by kernel_rfl
theorem aec:Rows.topGrantsRow.veiledFits Tryz.prog Tryz.f4.params.toList (Tryz.f4.params.toList++Rows.topGrantsSpec.plain.varTypes Tryz.prog++Tryz.f4.resultTypes.toList)=true:=by kernel_rfl
theorem agV:Tryz.pinned.checked.prog.funcNamed Rows.topGrantsRow.func=some 4:=by kernel_rfl
theorem abJ:Tryz.f4.isInstance Tryz.pinned.checked.prog Rows.topGrantsRow.origin Rows.topGrantsRow.targs:=of_decide_eq_true (by kernel_rfl)
theorem acX:Tryz.f4.isWrapper Tryz.pinned.checked.prog Rows.topGrantsRow.wrapper Rows.topGrantsRow.mainSum:=by unfold Func.isWrapper;rw[if_neg (of_decide_eq_false (by kernel_rfl))];exact⟨rfl,rfl⟩
theorem abZ:Rows.topGrantsRow.wfByText (OpenSpec.ofChange Rows.topGrantsSpec)=true:=by kernel_rfl

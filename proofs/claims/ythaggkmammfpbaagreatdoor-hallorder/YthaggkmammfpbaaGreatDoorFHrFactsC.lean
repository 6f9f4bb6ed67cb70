/- -/
import Derived.Test.YthaggkmammfpbaaGreatDoorRows
import Derived.ProofKit
import Derived.LaidLaws
import Derived.JoinedCond
import Derived.SevenTiedAt
namespace Go.Proofs.YthaggkmammfpbaaGreatDoor
open Go.ChangeShapes Go.WideShapes Go.ChangeAt Go.RowKit
theorem hr_k1 : Rows.hallOrderRow.wf (OpenSpec.ofChange Rows.hallOrderSpec) = true := by kernel_rfl
theorem hr_k2 : laidOutB Tryz.prog = true := by kernel_rfl
theorem hr_k3 : mapsRowed Tryz.prog = true := by kernel_rfl
theorem hr_k4 : Tryz.f8.params.all (Tryz.prog.readableRec ·) = true := by kernel_rfl
theorem hr_k5 : namedTie Tryz.prog Rows.hallOrderRow.named Rows.hallOrderSpec.vars = true := by kernel_rfl
theorem hr_k6 : (Rows.hallOrderRow.stops == []) = true := by kernel_rfl
theorem hr_k7 : (Tryz.prog.stops == []) = true := by kernel_rfl
theorem hr_k8 : (Rows.hallOrderRow.knobs == []) = true := by kernel_rfl
theorem hr_k9 : (Tryz.prog.stopKnobs == []) = true := by kernel_rfl
theorem hr_k14 : (Rows.hallOrderRow.maps == (Tryz.f8.params.toList ++ Rows.hallOrderSpec.plain.varTypes Tryz.prog).any (Tryz.prog.mapsRec ·)) = true := by kernel_rfl
theorem hr_k15 : (Rows.hallOrderRow.ifaces == (Tryz.f8.params.toList ++ Rows.hallOrderSpec.plain.varTypes Tryz.prog).any (Tryz.prog.ifacesRec ·)) = true := by kernel_rfl
theorem hr_k16 : (Rows.hallOrderRow.mapsOut == Tryz.prog.mapsAmong Tryz.f8.resultTypes.toList) = true := by kernel_rfl
theorem hr_k17 : (Rows.hallOrderRow.loops == (Tryz.f8.params.toList ++ Rows.hallOrderSpec.plain.varTypes Tryz.prog).any (Tryz.prog.loopsFrom ·)) = true := by kernel_rfl
theorem hr_k18 : (Rows.hallOrderRow.wideKeys == (Tryz.f8.params.toList ++ Rows.hallOrderSpec.plain.varTypes Tryz.prog ++ Tryz.f8.resultTypes.toList).any (Tryz.prog.wideKeysFrom ·)) = true := by kernel_rfl
theorem hr_k19 : Rows.hallOrderSpec.vars.all (Tryz.prog.varReadable ·) = true := by kernel_rfl
theorem hr_k20 : Tryz.f8.resultTypes.all (fun t => Tryz.prog.readableRec t && decide (t < Tryz.prog.types.size)) = true := by kernel_rfl
theorem hr_k21 : (Rows.hallOrderRow.ifacesOut == Tryz.f8.resultTypes.toList.any (Tryz.prog.ifacesRec ·)) = true := by kernel_rfl
theorem hr_k22 : (Rows.hallOrderRow.loopsOut == Tryz.f8.resultTypes.toList.any (Tryz.prog.loopsFrom ·)) = true := by kernel_rfl
theorem hr_k23 : (Rows.hallOrderRow.plainKeys == Tryz.prog.plainKeys) = true := by kernel_rfl
theorem hr_k24 : Rows.hallOrderRow.shortTexts.isNone = true := by kernel_rfl
theorem hr_k25 : Tryz.prog.stopsHeard = true := by kernel_rfl
theorem hr_k26 : Tryz.prog.mayEnter = true := by kernel_rfl
theorem hr_k27 : (Rows.hallOrderRow.lifted == Tryz.prog.liftsFinal) = true := by kernel_rfl
theorem hr_k28 : (Tryz.prog.make == some Rows.hallOrderRow.make) = true := by kernel_rfl
theorem hr_k29 : (Rows.hallOrderRow.kinds == (if Rows.hallOrderRow.domain.isEmpty then [] else Tryz.f8.params.toList.map fun t => match Tryz.prog.underlying t with | some (.int k) => some k | _ => none)) = true := by kernel_rfl
theorem hr_k30 : (Rows.hallOrderRow.pinned == Rows.hallOrderRow.pinnedBy) = true := by kernel_rfl
theorem hr_k31 : (Rows.hallOrderRow.veiled == (Tryz.f8.params.toList ++ Rows.hallOrderSpec.plain.varTypes Tryz.prog ++ Tryz.f8.resultTypes.toList).any (Tryz.prog.veiledRec ·)) = true := by kernel_rfl
theorem hr_k32 : Rows.hallOrderRow.veiledFits Tryz.prog Tryz.f8.params.toList (Tryz.f8.params.toList ++ Rows.hallOrderSpec.plain.varTypes Tryz.prog ++ Tryz.f8.resultTypes.toList) = true := by kernel_rfl
theorem hr_fn : Tryz.pinned.checked.prog.funcNamed Rows.hallOrderRow.func = some 8 := by kernel_rfl
theorem hr_inst : Tryz.f8.isInstance Tryz.pinned.checked.prog Rows.hallOrderRow.origin Rows.hallOrderRow.targs := of_decide_eq_true (by kernel_rfl)
theorem hr_wrap : Tryz.f8.isWrapper Tryz.pinned.checked.prog Rows.hallOrderRow.wrapper Rows.hallOrderRow.mainSum := by unfold Func.isWrapper; rw [if_neg (of_decide_eq_false (by kernel_rfl))]; exact ⟨rfl,rfl⟩
theorem hr_wfby : Rows.hallOrderRow.wfByText (OpenSpec.ofChange Rows.hallOrderSpec) = true := by kernel_rfl
end Go.Proofs.YthaggkmammfpbaaGreatDoor

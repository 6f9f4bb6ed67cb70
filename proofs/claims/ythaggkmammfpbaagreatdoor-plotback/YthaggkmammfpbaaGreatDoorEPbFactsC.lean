/- The closed facts of the row of PlotBack, one by one. -/
import Derived.Test.YthaggkmammfpbaaGreatDoorRows
import Derived.ProofKit
import Derived.LaidLaws
import Derived.JoinedCond
import Derived.SevenTiedAt
namespace Go.Proofs.YthaggkmammfpbaaGreatDoor
open Go.ChangeShapes Go.WideShapes Go.ChangeAt Go.RowKit

theorem pk_k1 : Rows.plotBackRow.wf (OpenSpec.ofChange Rows.plotBackSpec) = true := by kernel_rfl
theorem pk_k2 : laidOutB Tryz.prog = true := by kernel_rfl
theorem pk_k3 : mapsRowed Tryz.prog = true := by kernel_rfl
theorem pk_k4 : Tryz.f6.params.all (Tryz.prog.readableRec ·) = true := by kernel_rfl
theorem pk_k5 : namedTie Tryz.prog Rows.plotBackRow.named Rows.plotBackSpec.vars = true := by kernel_rfl
theorem pk_k6 : (Rows.plotBackRow.stops == []) = true := by kernel_rfl
theorem pk_k7 : (Tryz.prog.stops == []) = true := by kernel_rfl
theorem pk_k8 : (Rows.plotBackRow.knobs == []) = true := by kernel_rfl
theorem pk_k9 : (Tryz.prog.stopKnobs == []) = true := by kernel_rfl
theorem pk_k14 : (Rows.plotBackRow.maps == (Tryz.f6.params.toList ++ Rows.plotBackSpec.plain.varTypes Tryz.prog).any (Tryz.prog.mapsRec ·)) = true := by kernel_rfl
theorem pk_k15 : (Rows.plotBackRow.ifaces == (Tryz.f6.params.toList ++ Rows.plotBackSpec.plain.varTypes Tryz.prog).any (Tryz.prog.ifacesRec ·)) = true := by kernel_rfl
theorem pk_k16 : (Rows.plotBackRow.mapsOut == Tryz.prog.mapsAmong Tryz.f6.resultTypes.toList) = true := by kernel_rfl
theorem pk_k17 : (Rows.plotBackRow.loops == (Tryz.f6.params.toList ++ Rows.plotBackSpec.plain.varTypes Tryz.prog).any (Tryz.prog.loopsFrom ·)) = true := by kernel_rfl
theorem pk_k18 : (Rows.plotBackRow.wideKeys == (Tryz.f6.params.toList ++ Rows.plotBackSpec.plain.varTypes Tryz.prog ++ Tryz.f6.resultTypes.toList).any (Tryz.prog.wideKeysFrom ·)) = true := by kernel_rfl
theorem pk_k19 : Rows.plotBackSpec.vars.all (Tryz.prog.varReadable ·) = true := by kernel_rfl
theorem pk_k20 : Tryz.f6.resultTypes.all (fun t => Tryz.prog.readableRec t && decide (t < Tryz.prog.types.size)) = true := by kernel_rfl
theorem pk_k21 : (Rows.plotBackRow.ifacesOut == Tryz.f6.resultTypes.toList.any (Tryz.prog.ifacesRec ·)) = true := by kernel_rfl
theorem pk_k22 : (Rows.plotBackRow.loopsOut == Tryz.f6.resultTypes.toList.any (Tryz.prog.loopsFrom ·)) = true := by kernel_rfl
theorem pk_k23 : (Rows.plotBackRow.plainKeys == Tryz.prog.plainKeys) = true := by kernel_rfl
theorem pk_k24 : Rows.plotBackRow.shortTexts.isNone = true := by kernel_rfl
theorem pk_k25 : Tryz.prog.stopsHeard = true := by kernel_rfl
theorem pk_k26 : Tryz.prog.mayEnter = true := by kernel_rfl
theorem pk_k27 : (Rows.plotBackRow.lifted == Tryz.prog.liftsFinal) = true := by kernel_rfl
theorem pk_k28 : (Tryz.prog.make == some Rows.plotBackRow.make) = true := by kernel_rfl
theorem pk_k29 : (Rows.plotBackRow.kinds == (if Rows.plotBackRow.domain.isEmpty then [] else Tryz.f6.params.toList.map fun t => match Tryz.prog.underlying t with | some (.int k) => some k | _ => none)) = true := by kernel_rfl
theorem pk_k30 : (Rows.plotBackRow.pinned == Rows.plotBackRow.pinnedBy) = true := by kernel_rfl
theorem pk_k31 : (Rows.plotBackRow.veiled == (Tryz.f6.params.toList ++ Rows.plotBackSpec.plain.varTypes Tryz.prog ++ Tryz.f6.resultTypes.toList).any (Tryz.prog.veiledRec ·)) = true := by kernel_rfl
theorem pk_k32 : Rows.plotBackRow.veiledFits Tryz.prog Tryz.f6.params.toList (Tryz.f6.params.toList ++ Rows.plotBackSpec.plain.varTypes Tryz.prog ++ Tryz.f6.resultTypes.toList) = true := by kernel_rfl
theorem pk_fn : Tryz.pinned.checked.prog.funcNamed Rows.plotBackRow.func = some 6 := by kernel_rfl
theorem pk_inst : Tryz.f6.isInstance Tryz.pinned.checked.prog Rows.plotBackRow.origin Rows.plotBackRow.targs := of_decide_eq_true (by kernel_rfl)
theorem pk_wrap : Tryz.f6.isWrapper Tryz.pinned.checked.prog Rows.plotBackRow.wrapper Rows.plotBackRow.mainSum := by unfold Func.isWrapper; rw [if_neg (of_decide_eq_false (by kernel_rfl))]; exact ⟨rfl, rfl⟩
theorem pk_wfby : Rows.plotBackRow.wfByText (OpenSpec.ofChange Rows.plotBackSpec) = true := by kernel_rfl
end Go.Proofs.YthaggkmammfpbaaGreatDoor


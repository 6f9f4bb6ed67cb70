/- The closed facts of the row of HallOnce, one by one. -/
import Derived.Test.YthaggkmammfpbaaGreatDoorRows
import Derived.ProofKit
import Derived.LaidLaws
import Derived.JoinedCond
import Derived.SevenTiedAt
namespace Go.Proofs.YthaggkmammfpbaaGreatDoor
open Go.ChangeShapes Go.WideShapes Go.ChangeAt Go.RowKit

theorem ho_k1 : Rows.hallOnceRow.wf (OpenSpec.ofChange Rows.hallOnceSpec) = true := by kernel_rfl
theorem ho_k2 : laidOutB Tryz.prog = true := by kernel_rfl
theorem ho_k3 : mapsRowed Tryz.prog = true := by kernel_rfl
theorem ho_k4 : Tryz.f7.params.all (Tryz.prog.readableRec ·) = true := by kernel_rfl
theorem ho_k5 : namedTie Tryz.prog Rows.hallOnceRow.named Rows.hallOnceSpec.vars = true := by kernel_rfl
theorem ho_k6 : (Rows.hallOnceRow.stops == []) = true := by kernel_rfl
theorem ho_k7 : (Tryz.prog.stops == []) = true := by kernel_rfl
theorem ho_k8 : (Rows.hallOnceRow.knobs == []) = true := by kernel_rfl
theorem ho_k9 : (Tryz.prog.stopKnobs == []) = true := by kernel_rfl
theorem ho_k14 : (Rows.hallOnceRow.maps == (Tryz.f7.params.toList ++ Rows.hallOnceSpec.plain.varTypes Tryz.prog).any (Tryz.prog.mapsRec ·)) = true := by kernel_rfl
theorem ho_k15 : (Rows.hallOnceRow.ifaces == (Tryz.f7.params.toList ++ Rows.hallOnceSpec.plain.varTypes Tryz.prog).any (Tryz.prog.ifacesRec ·)) = true := by kernel_rfl
theorem ho_k16 : (Rows.hallOnceRow.mapsOut == Tryz.prog.mapsAmong Tryz.f7.resultTypes.toList) = true := by kernel_rfl
theorem ho_k17 : (Rows.hallOnceRow.loops == (Tryz.f7.params.toList ++ Rows.hallOnceSpec.plain.varTypes Tryz.prog).any (Tryz.prog.loopsFrom ·)) = true := by kernel_rfl
theorem ho_k18 : (Rows.hallOnceRow.wideKeys == (Tryz.f7.params.toList ++ Rows.hallOnceSpec.plain.varTypes Tryz.prog ++ Tryz.f7.resultTypes.toList).any (Tryz.prog.wideKeysFrom ·)) = true := by kernel_rfl
theorem ho_k19 : Rows.hallOnceSpec.vars.all (Tryz.prog.varReadable ·) = true := by kernel_rfl
theorem ho_k20 : Tryz.f7.resultTypes.all (fun t => Tryz.prog.readableRec t && decide (t < Tryz.prog.types.size)) = true := by kernel_rfl
theorem ho_k21 : (Rows.hallOnceRow.ifacesOut == Tryz.f7.resultTypes.toList.any (Tryz.prog.ifacesRec ·)) = true := by kernel_rfl
theorem ho_k22 : (Rows.hallOnceRow.loopsOut == Tryz.f7.resultTypes.toList.any (Tryz.prog.loopsFrom ·)) = true := by kernel_rfl
theorem ho_k23 : (Rows.hallOnceRow.plainKeys == Tryz.prog.plainKeys) = true := by kernel_rfl
theorem ho_k24 : Rows.hallOnceRow.shortTexts.isNone = true := by kernel_rfl
theorem ho_k25 : Tryz.prog.stopsHeard = true := by kernel_rfl
theorem ho_k26 : Tryz.prog.mayEnter = true := by kernel_rfl
theorem ho_k27 : (Rows.hallOnceRow.lifted == Tryz.prog.liftsFinal) = true := by kernel_rfl
theorem ho_k28 : (Tryz.prog.make == some Rows.hallOnceRow.make) = true := by kernel_rfl
theorem ho_k29 : (Rows.hallOnceRow.kinds == (if Rows.hallOnceRow.domain.isEmpty then [] else Tryz.f7.params.toList.map fun t => match Tryz.prog.underlying t with | some (.int k) => some k | _ => none)) = true := by kernel_rfl
theorem ho_k30 : (Rows.hallOnceRow.pinned == Rows.hallOnceRow.pinnedBy) = true := by kernel_rfl
theorem ho_k31 : (Rows.hallOnceRow.veiled == (Tryz.f7.params.toList ++ Rows.hallOnceSpec.plain.varTypes Tryz.prog ++ Tryz.f7.resultTypes.toList).any (Tryz.prog.veiledRec ·)) = true := by kernel_rfl
theorem ho_k32 : Rows.hallOnceRow.veiledFits Tryz.prog Tryz.f7.params.toList (Tryz.f7.params.toList ++ Rows.hallOnceSpec.plain.varTypes Tryz.prog ++ Tryz.f7.resultTypes.toList) = true := by kernel_rfl
theorem ho_fn : Tryz.pinned.checked.prog.funcNamed Rows.hallOnceRow.func = some 7 := by kernel_rfl
theorem ho_inst : Tryz.f7.isInstance Tryz.pinned.checked.prog Rows.hallOnceRow.origin Rows.hallOnceRow.targs := of_decide_eq_true (by kernel_rfl)
theorem ho_wrap : Tryz.f7.isWrapper Tryz.pinned.checked.prog Rows.hallOnceRow.wrapper Rows.hallOnceRow.mainSum := by unfold Func.isWrapper; rw [if_neg (of_decide_eq_false (by kernel_rfl))]; exact ⟨rfl, rfl⟩
theorem ho_wfby : Rows.hallOnceRow.wfByText (OpenSpec.ofChange Rows.hallOnceSpec) = true := by kernel_rfl
end Go.Proofs.YthaggkmammfpbaaGreatDoor


/- For every list of steps the law DeskForgets returns true, and its argument reads as it did. -/
import Derived.Test.YthhfhbcfdcenfaaGreatRows
import Derived.Test.YthhfhbcfdcenfaaGreatCDkOpen
import Derived.Test.YthhfhbcfdcenfaaGreatCNF
import Derived.Deep.DeepHandedRow
import Derived.JoinedCond
import Derived.Lib.SmallJoins
import Derived.Lib.LaidTab
namespace Go.Proofs.YthhfhbcfdcenfaaGreat
open Go.ChangeShapes Go.WideShapes Go.ChangeAt Go.ChangeMaps Go.RowKit Go.Joins

theorem df_own : ownKnob Tryz.prog.godebug = none := by kernel_rfl
abbrev dfArgs : Array Value := #[.slice none 0 0]
theorem df_reads (os : Os) {H : Type} (enc : TypeId × Value → H) : ∃ places, DataW.whole enc Tryz.prog ((World.holding Tryz.prog os ⟨#[], #[], []⟩).forCall (fun _ _ => 0) ⟨#[], dfArgs, []⟩).memory Tryz.f3.params.toList Rows.deskForgetsSpec.vars false dfArgs.toList 8 = some ([.nil], [], places) :=
  ⟨[], by kernel_rfl⟩
theorem df_met (os : Os) : laidMet Tryz.prog Rows.deskForgetsRow.laid ((World.holding Tryz.prog os ⟨#[], #[], []⟩).forCall (fun _ _ => 0) ⟨#[], dfArgs, []⟩).memory :=
  laidMet_of_run' 8 (by kernel_rfl) (by kernel_rfl)

set_option maxRecDepth 100000 in
theorem df_contract {T : Td} (V : DFace T) {H : Type} (enc : TypeId × Value → H) (W : World) (base : Nat) (args : Array Value) (ds gs : List (DataW H)) (before : List MemPlace)
    (hval : ∀ (j : Nat) t v, Tryz.f3.params[j]? = some t → args[j]? = some v → Value.okWide Tryz.prog W .any base t v)
    (hW : DataW.Whole enc Tryz.prog Tryz.f3.params.toList Rows.deskForgetsSpec.vars false W args.toList ds gs before) :
    Calls Tryz.prog 3 args W fun e W' => ∃ v, e = .returned v ∧ Rows.deskForgetsSpec.post enc Tryz.prog Tryz.f3 false true false false W args v W' := by
  have hW' := hW
  obtain ⟨p, q, hA, hV, rfl, hfz, hnd⟩ := hW
  rw [Tryz.params3] at hA hval
  obtain ⟨v0, d0, rfl, rfl, h0⟩ := trodAll_one hA
  obtain ⟨rfl, rfl⟩ := trodVars_none hV
  have hlt : ∀ x ∈ p, x.block < W.heap.size := fun x hx => by simpa using hW'.lt x (by simpa using hx)
  obtain ⟨pq, cq, l, rfl, hsl, hst, hsn⟩ := open_stepsN (hval 0 22 v0 rfl rfl) h0
  simp only [List.append_nil] at hW'
  refine (law_forgets V l pq cq W (by unfold maxLen at hsl; omega) hst hsn).mono fun e W' ⟨he, hb⟩ => ?_
  subst he
  have e1 : Rows.deskForgetsSpec.fn H ([d0] ++ []) = { results := [.lit (.bool true)], args := [d0] } := by simp [Rows.deskForgetsSpec]
  refine ⟨_, rfl, _, _, _, [], p, [], by simpa using hW', ?_, ?_, ?_, hb.frame _, fun h => by cases h⟩
  · rw [e1]; exact trodAll_mk1 (shut_bool Tryz.underlying4 true)
  · rw [e1]; exact trodAll_mk1 (Below.trod laid_out (by kernel_rfl) (of_decide_eq_true (by kernel_rfl)) h0 hb (fun x hx => hlt x hx))
  · rw [e1]; rfl

set_option maxRecDepth 100000 in
theorem df_lifted {T : Td} (V : DFace T) (os : Os) (started : os.Started) (H : Type) (enc : TypeId × Value → H) (F : Stop.Interp) :
    ReturnsInHanded {} Tryz.checked os 3 .any ((OpenSpec.ofChange Rows.deskForgetsSpec).preRow enc Tryz.prog Tryz.f3 Rows.deskForgetsRow.domain false Rows.deskForgetsRow.laid) (((OpenSpec.ofChange Rows.deskForgetsSpec).at F).post enc Tryz.prog Tryz.f3 false true false false) := by
  obtain ⟨places, hx⟩ := df_reads os enc
  refine returnsInHanded_of_row (C := Tryz.checked) (s := OpenSpec.ofChange Rows.deskForgetsSpec) df_own started (by kernel_rfl) Tryz.func3
    (witness_row_at (enc := enc) (C := Tryz.checked) false (World.holding Tryz.prog os ⟨#[], #[], []⟩) dfArgs rfl (by kernel_rfl) (by kernel_rfl) (by kernel_rfl)
      (OpenSpec.preRow_of_cond 8 hx (by kernel_rfl) (fun k hk => by cases hk) (by kernel_rfl) (df_met os))) ?_
  intro W base args ds gs before hval hW _ _ _ _ _ _
  exact df_contract V enc W base args ds gs before hval hW

theorem df_said {T : Td} (V : DFace T) : Rows.DeskForgetsSaid :=
  OpenClaim.holds_of_cond 3 Tryz.f3 rfl rfl rfl rfl rfl rfl rfl ⟨rfl, rfl, rfl, rfl, rfl⟩ rfl rfl rfl rfl rfl (by kernel_rfl) Tryz.func3 (by kernel_rfl)
    (of_decide_eq_true (by kernel_rfl)) (by unfold Func.isWrapper; rw [if_neg (of_decide_eq_false (by kernel_rfl))]; exact ⟨rfl, rfl⟩)
    (fun os started H enc _ F => by rw [OpenClaim.pre_eq_preRow]; exact df_lifted V os started H enc F)
end Go.Proofs.YthhfhbcfdcenfaaGreat

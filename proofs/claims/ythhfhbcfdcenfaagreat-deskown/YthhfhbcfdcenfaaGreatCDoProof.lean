/- For every list of steps, every key and every value the law DeskOwn returns true, and its arguments read as they did. -/
import Derived.Test.YthhfhbcfdcenfaaGreatRows
import Derived.Test.YthhfhbcfdcenfaaGreatCDkOpen
import Derived.Test.YthhfhbcfdcenfaaGreatCNO
import Derived.Deep.DeepHandedRow
import Derived.JoinedCond
import Derived.Lib.SmallJoins
import Derived.Lib.LaidTab
namespace Go.Proofs.YthhfhbcfdcenfaaGreat
open Go.ChangeShapes Go.WideShapes Go.ChangeAt Go.ChangeMaps Go.RowKit Go.Joins

theorem dw_own : ownKnob Tryz.prog.godebug = none := by kernel_rfl
abbrev dwArgs : Array Value := #[.slice none 0 0, .string ByteArray.empty, .string ByteArray.empty]
theorem dw_reads (os : Os) {H : Type} (enc : TypeId × Value → H) : ∃ places, DataW.whole enc Tryz.prog ((World.holding Tryz.prog os ⟨#[], #[], []⟩).forCall (fun _ _ => 0) ⟨#[], dwArgs, []⟩).memory Tryz.f4.params.toList Rows.deskOwnSpec.vars false dwArgs.toList 8 = some ([.nil, .lit (.string []), .lit (.string [])], [], places) :=
  ⟨[], by kernel_rfl⟩
theorem dw_met (os : Os) : laidMet Tryz.prog Rows.deskOwnRow.laid ((World.holding Tryz.prog os ⟨#[], #[], []⟩).forCall (fun _ _ => 0) ⟨#[], dwArgs, []⟩).memory :=
  laidMet_of_run' 8 (by kernel_rfl) (by kernel_rfl)

set_option maxRecDepth 100000 in
theorem dw_contract {T : Td} (V : DFace T) {H : Type} (enc : TypeId × Value → H) (W : World) (base : Nat) (args : Array Value) (ds gs : List (DataW H)) (before : List MemPlace)
    (hval : ∀ (j : Nat) t v, Tryz.f4.params[j]? = some t → args[j]? = some v → Value.okWide Tryz.prog W .any base t v)
    (hW : DataW.Whole enc Tryz.prog Tryz.f4.params.toList Rows.deskOwnSpec.vars false W args.toList ds gs before) :
    Calls Tryz.prog 4 args W fun e W' => ∃ v, e = .returned v ∧ Rows.deskOwnSpec.post enc Tryz.prog Tryz.f4 false true false false W args v W' := by
  have hW' := hW
  obtain ⟨p, q, hA, hV, rfl, hfz, hnd⟩ := hW
  rw [Tryz.params4] at hA hval
  obtain ⟨v0, v1, v2, d0, d1, d2, p0, p1, p2, rfl, rfl, rfl, h0, h1, h2⟩ := trodAll_three hA
  obtain ⟨rfl, rfl⟩ := trodVars_none hV
  obtain ⟨key, rfl, rfl, rfl, zkey⟩ := open_string Tryz.underlying9 (hval 1 9 v1 rfl rfl) h1
  obtain ⟨val, rfl, rfl, rfl, zval⟩ := open_string Tryz.underlying9 (hval 2 9 v2 rfl rfl) h2
  have hlt : ∀ x ∈ p0, x.block < W.heap.size := fun x hx => by simpa using hW'.lt x (by simpa using hx)
  obtain ⟨pq, cq, l, rfl, hsl, hst, hsn⟩ := open_stepsN (hval 0 22 v0 rfl rfl) h0
  simp only [List.append_nil] at hW'
  refine (law_own V l pq cq key val W (by unfold maxLen at hsl; omega) hst zkey zval).mono fun e W' ⟨he, hb⟩ => ?_
  subst he
  have e1 : Rows.deskOwnSpec.fn H ([d0, .lit (.string key.data.toList), .lit (.string val.data.toList)] ++ []) = { results := [.lit (.bool true)], args := [d0, .lit (.string key.data.toList), .lit (.string val.data.toList)] } := by simp [Rows.deskOwnSpec]
  refine ⟨_, rfl, _, _, _, [], p0 ++ ([] ++ []), [], by simpa using hW', ?_, ?_, ?_, hb.frame _, fun h => by cases h⟩
  · rw [e1]; exact trodAll_mk1 (shut_bool Tryz.underlying4 true)
  · rw [e1]; exact trodAll_mk3 (Below.trod laid_out (by kernel_rfl) (of_decide_eq_true (by kernel_rfl)) h0 hb (fun x hx => hlt x hx)) (shut_string Tryz.underlying9 zkey) (shut_string Tryz.underlying9 zval)
  · rw [e1]; rfl

set_option maxRecDepth 100000 in
theorem dw_lifted {T : Td} (V : DFace T) (os : Os) (started : os.Started) (H : Type) (enc : TypeId × Value → H) (F : Stop.Interp) :
    ReturnsInHanded {} Tryz.checked os 4 .any ((OpenSpec.ofChange Rows.deskOwnSpec).preRow enc Tryz.prog Tryz.f4 Rows.deskOwnRow.domain false Rows.deskOwnRow.laid) (((OpenSpec.ofChange Rows.deskOwnSpec).at F).post enc Tryz.prog Tryz.f4 false true false false) := by
  obtain ⟨places, hx⟩ := dw_reads os enc
  refine returnsInHanded_of_row (C := Tryz.checked) (s := OpenSpec.ofChange Rows.deskOwnSpec) dw_own started (by kernel_rfl) Tryz.func4
    (witness_row_at (enc := enc) (C := Tryz.checked) false (World.holding Tryz.prog os ⟨#[], #[], []⟩) dwArgs rfl (by kernel_rfl) (by kernel_rfl) (by kernel_rfl)
      (OpenSpec.preRow_of_cond 8 hx (by kernel_rfl) (fun k hk => by cases hk) (by kernel_rfl) (dw_met os))) ?_
  intro W base args ds gs before hval hW _ _ _ _ _ _
  exact dw_contract V enc W base args ds gs before hval hW

theorem dw_said {T : Td} (V : DFace T) : Rows.DeskOwnSaid :=
  OpenClaim.holds_of_cond 4 Tryz.f4 rfl rfl rfl rfl rfl rfl rfl ⟨rfl, rfl, rfl, rfl, rfl⟩ rfl rfl rfl rfl rfl (by kernel_rfl) Tryz.func4 (by kernel_rfl)
    (of_decide_eq_true (by kernel_rfl)) (by unfold Func.isWrapper; rw [if_neg (of_decide_eq_false (by kernel_rfl))]; exact ⟨rfl, rfl⟩)
    (fun os started H enc _ F => by rw [OpenClaim.pre_eq_preRow]; exact dw_lifted V os started H enc F)
end Go.Proofs.YthhfhbcfdcenfaaGreat

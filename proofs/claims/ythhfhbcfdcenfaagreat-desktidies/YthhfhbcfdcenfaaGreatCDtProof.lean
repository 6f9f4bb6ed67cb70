/- For every list of steps and any texts the law DeskTidies returns true, and its arguments read as they did. -/
import Derived.Test.YthhfhbcfdcenfaaGreatRows
import Derived.Test.YthhfhbcfdcenfaaGreatCDkOpen
import Derived.Test.YthhfhbcfdcenfaaGreatCNU
import Derived.Deep.DeepHandedRow
import Derived.JoinedCond
import Derived.Lib.SmallJoins
import Derived.Lib.LaidTab
namespace Go.Proofs.YthhfhbcfdcenfaaGreat
open Go.ChangeShapes Go.WideShapes Go.ChangeAt Go.ChangeMaps Go.RowKit Go.Joins

theorem dt_own : ownKnob Tryz.prog.godebug = none := by kernel_rfl
abbrev dtArgs : Array Value := #[.slice none 0 0, .string ByteArray.empty, .string ByteArray.empty, .string ByteArray.empty]
theorem dt_reads (os : Os) {H : Type} (enc : TypeId × Value → H) : ∃ places, DataW.whole enc Tryz.prog ((World.holding Tryz.prog os ⟨#[], #[], []⟩).forCall (fun _ _ => 0) ⟨#[], dtArgs, []⟩).memory Tryz.f5.params.toList Rows.deskTidiesSpec.vars false dtArgs.toList 8 = some ([.nil, .lit (.string []), .lit (.string []), .lit (.string [])], [], places) :=
  ⟨[], by kernel_rfl⟩
theorem dt_met (os : Os) : laidMet Tryz.prog Rows.deskTidiesRow.laid ((World.holding Tryz.prog os ⟨#[], #[], []⟩).forCall (fun _ _ => 0) ⟨#[], dtArgs, []⟩).memory :=
  laidMet_of_run' 8 (by kernel_rfl) (by kernel_rfl)

set_option maxRecDepth 100000 in
theorem dt_contract {T : Td} (V : DFace T) {H : Type} (enc : TypeId × Value → H) (W : World) (base : Nat) (args : Array Value) (ds gs : List (DataW H)) (before : List MemPlace)
    (hval : ∀ (j : Nat) t v, Tryz.f5.params[j]? = some t → args[j]? = some v → Value.okWide Tryz.prog W .any base t v)
    (hW : DataW.Whole enc Tryz.prog Tryz.f5.params.toList Rows.deskTidiesSpec.vars false W args.toList ds gs before) :
    Calls Tryz.prog 5 args W fun e W' => ∃ v, e = .returned v ∧ Rows.deskTidiesSpec.post enc Tryz.prog Tryz.f5 false true false false W args v W' := by
  have hW' := hW
  obtain ⟨p, q, hA, hV, rfl, hfz, hnd⟩ := hW
  rw [Tryz.params5] at hA hval
  obtain ⟨v0, v1, v2, v3, d0, d1, d2, d3, p0, p1, p2, p3, rfl, rfl, rfl, h0, h1, h2, h3⟩ := trodAll_four hA
  obtain ⟨rfl, rfl⟩ := trodVars_none hV
  obtain ⟨key, rfl, rfl, rfl, zkey⟩ := open_string Tryz.underlying9 (hval 1 9 v1 rfl rfl) h1
  obtain ⟨lo, rfl, rfl, rfl, zlo⟩ := open_string Tryz.underlying9 (hval 2 9 v2 rfl rfl) h2
  obtain ⟨hi, rfl, rfl, rfl, zhi⟩ := open_string Tryz.underlying9 (hval 3 9 v3 rfl rfl) h3
  have hlt : ∀ x ∈ p0, x.block < W.heap.size := fun x hx => by simpa using hW'.lt x (by simpa using hx)
  obtain ⟨pq, cq, l, rfl, hsl, hst, hsn⟩ := open_stepsN (hval 0 22 v0 rfl rfl) h0
  simp only [List.append_nil] at hW'
  refine (law_tidies V l key lo hi pq cq W zkey (by unfold maxLen at hsl; omega) hst).mono fun e W' ⟨he, hb⟩ => ?_
  subst he
  have e1 : Rows.deskTidiesSpec.fn H ([d0, .lit (.string key.data.toList), .lit (.string lo.data.toList), .lit (.string hi.data.toList)] ++ []) = { results := [.lit (.bool true)], args := [d0, .lit (.string key.data.toList), .lit (.string lo.data.toList), .lit (.string hi.data.toList)] } := by simp [Rows.deskTidiesSpec]
  refine ⟨_, rfl, _, _, _, [], p0 ++ ([] ++ ([] ++ [])), [], by simpa using hW', ?_, ?_, ?_, hb.frame _, fun h => by cases h⟩
  · rw [e1]; exact trodAll_mk1 (shut_bool Tryz.underlying4 true)
  · rw [e1]; exact trodAll_mk4 (Below.trod laid_out (by kernel_rfl) (of_decide_eq_true (by kernel_rfl)) h0 hb (fun x hx => hlt x hx)) (shut_string Tryz.underlying9 zkey) (shut_string Tryz.underlying9 zlo) (shut_string Tryz.underlying9 zhi)
  · rw [e1]; rfl

set_option maxRecDepth 100000 in
theorem dt_lifted {T : Td} (V : DFace T) (os : Os) (started : os.Started) (H : Type) (enc : TypeId × Value → H) (F : Stop.Interp) :
    ReturnsInHanded {} Tryz.checked os 5 .any ((OpenSpec.ofChange Rows.deskTidiesSpec).preRow enc Tryz.prog Tryz.f5 Rows.deskTidiesRow.domain false Rows.deskTidiesRow.laid) (((OpenSpec.ofChange Rows.deskTidiesSpec).at F).post enc Tryz.prog Tryz.f5 false true false false) := by
  obtain ⟨places, hx⟩ := dt_reads os enc
  refine returnsInHanded_of_row (C := Tryz.checked) (s := OpenSpec.ofChange Rows.deskTidiesSpec) dt_own started (by kernel_rfl) Tryz.func5
    (witness_row_at (enc := enc) (C := Tryz.checked) false (World.holding Tryz.prog os ⟨#[], #[], []⟩) dtArgs rfl (by kernel_rfl) (by kernel_rfl) (by kernel_rfl)
      (OpenSpec.preRow_of_cond 8 hx (by kernel_rfl) (fun k hk => by cases hk) (by kernel_rfl) (dt_met os))) ?_
  intro W base args ds gs before hval hW _ _ _ _ _ _
  exact dt_contract V enc W base args ds gs before hval hW

theorem dt_said {T : Td} (V : DFace T) : Rows.DeskTidiesSaid :=
  OpenClaim.holds_of_cond 5 Tryz.f5 rfl rfl rfl rfl rfl rfl rfl ⟨rfl, rfl, rfl, rfl, rfl⟩ rfl rfl rfl rfl rfl (by kernel_rfl) Tryz.func5 (by kernel_rfl)
    (of_decide_eq_true (by kernel_rfl)) (by unfold Func.isWrapper; rw [if_neg (of_decide_eq_false (by kernel_rfl))]; exact ⟨rfl, rfl⟩)
    (fun os started H enc _ F => by rw [OpenClaim.pre_eq_preRow]; exact dt_lifted V os started H enc F)
end Go.Proofs.YthhfhbcfdcenfaaGreat

/- For every list of steps, any texts and any number the law VersRanges returns true, and its arguments read as they did. -/
import Derived.Test.YtollgepjgeoeiaaRows
import Derived.Test.YtollgepjgeoeiaaVsOpen
import Derived.Test.YtollgepjgeoeiaaTrod56
import Derived.Test.YtollgepjgeoeiaaVrLawC
import Derived.Deep.DeepHandedRow
import Derived.JoinedCond
import Derived.Lib.SmallJoins
import Derived.Lib.LaidTab
namespace Go.Proofs.Ytollgepjgeoeiaa
open Go.ChangeShapes Go.WideShapes Go.ChangeAt Go.ChangeMaps Go.RowKit Go.Joins

theorem vr_own : ownKnob Try.prog.godebug = none := by kernel_rfl
abbrev vrArgs : Array Value := #[.slice none 0 0, .string ByteArray.empty, .string ByteArray.empty, .int .i64 0, .string ByteArray.empty]
theorem vr_reads (os : Os) {H : Type} (enc : TypeId × Value → H) : ∃ places, DataW.whole enc Try.prog ((World.holding Try.prog os ⟨#[], #[], []⟩).forCall (fun _ _ => 0) ⟨#[], vrArgs, []⟩).memory Try.f3.params.toList Rows.versRangesSpec.vars false vrArgs.toList 8 = some ([.nil, .lit (.string []), .lit (.string []), .lit (.int .i64 0), .lit (.string [])], [], places) :=
  ⟨[], by kernel_rfl⟩
theorem vr_met (os : Os) : laidMet Try.prog Rows.versRangesRow.laid ((World.holding Try.prog os ⟨#[], #[], []⟩).forCall (fun _ _ => 0) ⟨#[], vrArgs, []⟩).memory :=
  laidMet_of_run' 8 (by kernel_rfl) (by kernel_rfl)

set_option maxRecDepth 100000 in
theorem vr_contract {T : Tb} (V : Face T) {H : Type} (enc : TypeId × Value → H) (W : World) (base : Nat) (args : Array Value) (ds gs : List (DataW H)) (before : List MemPlace)
    (hval : ∀ (j : Nat) t v, Try.f3.params[j]? = some t → args[j]? = some v → Value.okWide Try.prog W .any base t v)
    (hW : DataW.Whole enc Try.prog Try.f3.params.toList Rows.versRangesSpec.vars false W args.toList ds gs before) :
    Calls Try.prog 3 args W fun e W' => ∃ v, e = .returned v ∧ Rows.versRangesSpec.post enc Try.prog Try.f3 false true false false W args v W' := by
  have hW' := hW
  obtain ⟨p, q, hA, hV, rfl, hfz, hnd⟩ := hW
  rw [Try.params3] at hA hval
  obtain ⟨v0, v1, v2, v3, v4, d0, d1, d2, d3, d4, p0, p1, p2, p3, p4, rfl, rfl, rfl, h0, h1, h2, h3, h4⟩ := trodAll_five hA
  obtain ⟨rfl, rfl⟩ := trodVars_none hV
  obtain ⟨lo, rfl, rfl, rfl, zlo⟩ := open_string Try.underlying9 (hval 1 9 v1 rfl rfl) h1
  obtain ⟨hi, rfl, rfl, rfl, zhi⟩ := open_string Try.underlying9 (hval 2 9 v2 rfl rfl) h2
  obtain ⟨a, rfl, rfl, rfl, wa⟩ := open_int Try.underlying3 (hval 3 3 v3 rfl rfl) h3
  obtain ⟨key, rfl, rfl, rfl, zkey⟩ := open_string Try.underlying9 (hval 4 9 v4 rfl rfl) h4
  have hlt : ∀ x ∈ p0, x.block < W.heap.size := fun x hx => by simpa using hW'.lt x (by simpa using hx)
  obtain ⟨pp, cp, l, rfl, hll, hsl⟩ := open_steps (hval 0 22 v0 rfl rfl) h0
  simp only [List.append_nil] at hW'
  refine (law_ranges V l pp cp a key lo hi W (by unfold maxLen at hll; omega) hsl zkey).mono fun e W' ⟨he, hb⟩ => ?_
  subst he
  have e1 : Rows.versRangesSpec.fn H ([d0, .lit (.string lo.data.toList), .lit (.string hi.data.toList), .lit (.int .i64 a), .lit (.string key.data.toList)] ++ []) = { results := [.lit (.bool true)], args := [d0, .lit (.string lo.data.toList), .lit (.string hi.data.toList), .lit (.int .i64 a), .lit (.string key.data.toList)] } := by simp [Rows.versRangesSpec]
  refine ⟨_, rfl, _, _, _, [], p0 ++ ([] ++ ([] ++ ([] ++ []))), [], by simpa using hW', ?_, ?_, ?_, hb.frame _, fun h => by cases h⟩
  · rw [e1]; exact trodAll_mk1 (shut_bool Try.underlying4 true)
  · rw [e1]; exact trodAll_cons_mk (Below.trod laid_out (by kernel_rfl) (of_decide_eq_true (by kernel_rfl)) h0 hb (fun x hx => hlt x hx)) (trodAll_cons_mk (shut_string Try.underlying9 zlo) (trodAll_mk3 (shut_string Try.underlying9 zhi) (shut_int Try.underlying3 wa) (shut_string Try.underlying9 zkey)))
  · rw [e1]; rfl

set_option maxRecDepth 100000 in
theorem vr_lifted {T : Tb} (V : Face T) (os : Os) (started : os.Started) (H : Type) (enc : TypeId × Value → H) (F : Stop.Interp) :
    ReturnsInHanded {} Try.checked os 3 .any ((OpenSpec.ofChange Rows.versRangesSpec).preRow enc Try.prog Try.f3 Rows.versRangesRow.domain false Rows.versRangesRow.laid) (((OpenSpec.ofChange Rows.versRangesSpec).at F).post enc Try.prog Try.f3 false true false false) := by
  obtain ⟨places, hx⟩ := vr_reads os enc
  refine returnsInHanded_of_row (C := Try.checked) (s := OpenSpec.ofChange Rows.versRangesSpec) vr_own started (by kernel_rfl) Try.func3
    (witness_row_at (enc := enc) (C := Try.checked) false (World.holding Try.prog os ⟨#[], #[], []⟩) vrArgs rfl (by kernel_rfl) (by kernel_rfl) (by kernel_rfl)
      (OpenSpec.preRow_of_cond 8 hx (by kernel_rfl) (fun k hk => by cases hk) (by kernel_rfl) (vr_met os))) ?_
  intro W base args ds gs before hval hW _ _ _ _ _ _
  exact vr_contract V enc W base args ds gs before hval hW

theorem vr_said {T : Tb} (V : Face T) : Rows.VersRangesSaid :=
  OpenClaim.holds_of_cond 3 Try.f3 rfl rfl rfl rfl rfl rfl rfl ⟨rfl, rfl, rfl, rfl, rfl⟩ rfl rfl rfl rfl rfl (by kernel_rfl) Try.func3 (by kernel_rfl)
    (of_decide_eq_true (by kernel_rfl)) (by unfold Func.isWrapper; rw [if_neg (of_decide_eq_false (by kernel_rfl))]; exact ⟨rfl, rfl⟩)
    (fun os started H enc _ F => by rw [OpenClaim.pre_eq_preRow]; exact vr_lifted V os started H enc F)
end Go.Proofs.Ytollgepjgeoeiaa

/- For every list of steps of that bulk the law DeskSerial returns true, and its argument reads as it did; listed, and tied to the text: what errors.errorType holds. -/
import Derived.Test.YtfnkaehpidaanaaGreatDoorRows
import Derived.Test.YtfnkaehpidaanaaGreatDoorCards
import Derived.Test.YtfnkaehpidaanaaGreatDoorTie
import Derived.Test.YtfnkaehpidaanaaGreatDoorCDkOpenB
import Derived.Test.YtfnkaehpidaanaaGreatDoorCSrLaw
import Derived.ProofKit
import Derived.OpenShut
import Derived.ChangeMaps5
import Derived.LaidLaws
import Derived.LaidHandle
import Derived.Deep.DeepHandedRow
import Derived.Lib.LaidTab
import Derived.Lib.SmallJoins
import Derived.JoinedCond
import Derived.SevenTiedAt
namespace Go.Proofs.YtfnkaehpidaanaaGreatDoor
open Go.ChangeShapes Go.WideShapes Go.ChangeAt Go.ChangeMaps Go.RowKit Go.Joins

theorem sq_own : ownKnob Tryz.prog.godebug = none := by kernel_rfl
theorem sq_etGlobal : Tryz.prog.globalNamed "errors.errorType" = some 0 := by kernel_rfl
theorem sq_rtType : (Tryz.prog.cutTypes.find? (·.1 == "internal/reflectlite.rtype")).map (·.2) = some 240 := by kernel_rfl
theorem sq_errRow : ((List.range 325).filter fun t => Tryz.prog.rowNamed t [101, 114, 114, 111, 114]) = [25] := by kernel_rfl
theorem sq_typesSize : Tryz.prog.types.size = 325 := by kernel_rfl
/-- What the listed handle gives: the variable's one cell. -/
theorem sq_handle {W : World} (h : handlesMet Tryz.prog [("errors.errorType", Rows.laid_errors_errorType)] W) : ErrType W := by
  obtain ⟨name, u, ty, e1, e2, e3, e4, e5⟩ := h _ (List.mem_singleton.2 rfl)
  have en : name = [101, 114, 114, 111, 114] := (Option.some.inj e1).symm
  subst en
  obtain rfl := Option.some.inj (sq_rtType.symm.trans e2)
  have hm : ty ∈ (List.range 325).filter fun t => Tryz.prog.rowNamed t [101, 114, 114, 111, 114] := List.mem_filter.2 ⟨List.mem_range.2 (by rw [← sq_typesSize]; exact e3), e4⟩
  rw [sq_errRow] at hm
  obtain rfl := List.mem_singleton.1 hm
  have hh : typeHandle Tryz.prog 25 = .pointer (some ⟨2, 25, none⟩) := by kernel_rfl
  rw [hh] at e5
  simpa using World.var?_cell sq_etGlobal e5 0
theorem sq_laid {W : World} (h : laidMetH Tryz.prog Rows.deskSerialUptoRow.laid W) : ErrType W := by
  have h' : laidMet Tryz.prog [] W ∧ handlesMet Tryz.prog [("errors.errorType", Rows.laid_errors_errorType)] W := h
  exact sq_handle h'.2
/-- What the bound says of a step's key. -/
theorem sq_bulk {H : Type} (d : DataW H) (h : Rows.uptoSmall H ([d] ++ []) = true) : Rows.uptoBulk d ≤ 1048576 := by
  have h2 : Rows.uptoBulkAll (H := H) [d] ≤ 1048576 := of_decide_eq_true h
  simp only [Rows.uptoBulkAll] at h2
  omega
set_option maxRecDepth 100000 in
/-- The call at every argument of that bulk, from every world in which the listed variable lies. -/
theorem sq_contract {T : Td} (V : DFace T) {H : Type} (enc : TypeId × Value → H) (W : World) (base : Nat) (args : Array Value) (ds gs : List (DataW H)) (before : List MemPlace)
    (hval : ∀ (j : Nat) t v, Tryz.f4.params[j]? = some t → args[j]? = some v → Value.okWide Tryz.prog W .any base t v)
    (hW : DataW.Whole enc Tryz.prog Tryz.f4.params.toList Rows.deskSerialSpec.vars false W args.toList ds gs before) (hk : Rows.uptoSmall H (ds ++ gs) = true) (hL : laidMetH Tryz.prog Rows.deskSerialUptoRow.laid W) :
    Calls Tryz.prog 4 args W fun e W' => ∃ v, e = .returned v ∧ Rows.deskSerialSpec.post enc Tryz.prog Tryz.f4 false true false false W args v W' := by
  have hW' := hW
  obtain ⟨p, q, hA, hV, rfl, hfz, hnd⟩ := hW
  rw [Tryz.params4] at hA hval
  obtain ⟨v0, d0, rfl, rfl, h0⟩ := trodAll_one hA
  obtain ⟨rfl, rfl⟩ := trodVars_none hV
  have hlt : ∀ x ∈ p, x.block < W.heap.size := fun x hx => by simpa using hW'.lt x (by simpa using hx)
  obtain ⟨pp, cp, l, rfl, hll, hsl, hsn, hsz⟩ := open_stepsB (hval 0 22 v0 rfl rfl) h0
  have hbk := sq_bulk d0 hk
  simp only [List.append_nil] at hW'
  refine (law_serial V l pp cp W (by unfold maxLen at hll; omega) hsl (fun x hx => (hsn x hx).2) (fun x hx => by have := hsz x hx; omega) (sq_laid hL)).mono fun e W' ⟨he, hb⟩ => ?_
  subst he
  have e1 : Rows.deskSerialSpec.fn H ([d0] ++ []) = { results := [.lit (.bool true)], args := [d0] } := by simp [Rows.deskSerialSpec]
  refine ⟨_, rfl, _, _, _, [], p, [], by simpa using hW', ?_, ?_, ?_, hb.frame _, fun h => by cases h⟩
  · rw [e1]; exact trodAll_mk1 (shut_bool Tryz.underlying4 true)
  · rw [e1]; exact trodAll_mk1 (Below.trod laid_out (by kernel_rfl) (of_decide_eq_true (by kernel_rfl)) h0 hb (fun x hx => hlt x hx))
  · rw [e1]; rfl
def sq_lay (cs : Array Value) : Obj → Obj
  | .cells _ t frozen => .cells cs t frozen
  | o => o
/-- A world that meets the row's list. -/
theorem sq_met (os : Os) : laidMetH Tryz.prog Rows.deskSerialUptoRow.laid (({ World.holding Tryz.prog os ⟨#[], #[], []⟩ with heap := (World.holding Tryz.prog os ⟨#[], #[], []⟩).heap.modify 0 (sq_lay #[.iface 240 (.agg #[.pointer (some ⟨2, 25, none⟩)])]) } : World).forCall (fun _ _ => 0) ⟨#[], #[.slice none 0 0], []⟩).memory :=
  laidMetH_of_parts (laidMet_nil _ _) (by kernel_rfl)
theorem sq_reads (os : Os) {H : Type} (enc : TypeId × Value → H) : ∃ places, DataW.whole enc Tryz.prog (({ World.holding Tryz.prog os ⟨#[], #[], []⟩ with heap := (World.holding Tryz.prog os ⟨#[], #[], []⟩).heap.modify 0 (sq_lay #[.iface 240 (.agg #[.pointer (some ⟨2, 25, none⟩)])]) } : World).forCall (fun _ _ => 0) ⟨#[], #[.slice none 0 0], []⟩).memory Tryz.f4.params.toList Rows.deskSerialSpec.vars false (#[.slice none 0 0] : Array Value).toList 8 = some ([.nil], [], places) :=
  ⟨[], by kernel_rfl⟩
set_option maxRecDepth 100000 in
theorem sq_lifted {T : Td} (V : DFace T) (os : Os) (started : os.Started) (H : Type) (enc : TypeId × Value → H) (F : Stop.Interp) :
    ReturnsInHanded {} Tryz.checked os 4 .any ((Rows.OpenSpec.upto Rows.deskSerialSpec).preRow enc Tryz.prog Tryz.f4 Rows.deskSerialUptoRow.domain false Rows.deskSerialUptoRow.laid) (((Rows.OpenSpec.upto Rows.deskSerialSpec).at F).post enc Tryz.prog Tryz.f4 false true false false) := by
  obtain ⟨places, hx⟩ := sq_reads os enc
  refine returnsInHanded_of_row (C := Tryz.checked) (s := Rows.OpenSpec.upto Rows.deskSerialSpec) sq_own started (by kernel_rfl) Tryz.func4
    (witness_row_at (enc := enc) (C := Tryz.checked) false ({ World.holding Tryz.prog os ⟨#[], #[], []⟩ with heap := (World.holding Tryz.prog os ⟨#[], #[], []⟩).heap.modify 0 (sq_lay #[.iface 240 (.agg #[.pointer (some ⟨2, 25, none⟩)])]) } : World) #[.slice none 0 0] rfl (by kernel_rfl) (by kernel_rfl) (by kernel_rfl)
      (OpenSpec.preRow_of_cond 8 hx (by kernel_rfl) (fun k hk => by cases hk; kernel_rfl) (by kernel_rfl) (sq_met os))) ?_
  intro W base args ds gs before hval hW _ hcond _ hL _ _
  exact sq_contract V enc W base args ds gs before hval hW (hcond _ rfl) hL
theorem sq_said {T : Td} (V : DFace T) : Rows.DeskSerialUptoSaid :=
  OpenClaim.holds_of_cond 4 Tryz.f4 rfl rfl rfl rfl rfl rfl rfl ⟨rfl, rfl, rfl, rfl, rfl⟩ rfl rfl rfl rfl rfl (by kernel_rfl) Tryz.func4 (by kernel_rfl)
    (of_decide_eq_true (by kernel_rfl)) (by unfold Func.isWrapper; rw [if_neg (of_decide_eq_false (by kernel_rfl))]; exact ⟨rfl, rfl⟩)
    (fun os started H enc _ F => by rw [OpenClaim.pre_eq_preRow]; exact sq_lifted V os started H enc F)
theorem sq_plain (f : FuncId) (fn : Func) (hf : Tryz.pinned.checked.prog.funcNamed "burgage/burgagelaw2.DeskSerial" = some f) (hfn : Tryz.pinned.checked.prog.funcs[f]? = some fn) :
    true = Tryz.pinned.checked.prog.looks [] ∧ ∀ (j : Nat) t, fn.params[j]? = some t → Tryz.pinned.checked.prog.wantsStandIn t = false := by
  obtain rfl : f = 4 := Option.some.inj ((show Tryz.prog.funcNamed "burgage/burgagelaw2.DeskSerial" = some 4 by kernel_rfl).symm.trans hf) |>.symm
  obtain rfl : fn = Tryz.f4 := (Option.some.inj (Tryz.func4.symm.trans hfn)).symm
  refine ⟨by kernel_rfl, fun j t ht => ?_⟩
  rw [Tryz.params4] at ht
  have ht' : t = 22 := by
    have := Array.mem_of_getElem? ht
    simp at this
    omega
  subst ht'
  exact (show Tryz.prog.wantsStandIn 22 = false by kernel_rfl)
/-- The card of DeskSerial: for every input of that bulk the law returns true. -/
theorem deskSerial_card' {T : Td} (V : DFace T) : Rows.DeskSerialUptoCardSaid :=
  Claim7.holds_tied_plain_at .later [] _ _ _ _ (sq_said V) (fun _ h => by cases h) (by kernel_rfl) (fun _ h => by cases h) deskSerialUpto_row_tie rfl ⟨rfl, rfl⟩ (by kernel_rfl) rfl sq_plain (by kernel_rfl)
end Go.Proofs.YtfnkaehpidaanaaGreatDoor

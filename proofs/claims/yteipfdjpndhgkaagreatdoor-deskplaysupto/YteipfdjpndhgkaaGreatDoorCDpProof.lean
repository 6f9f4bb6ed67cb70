/- For every room and every list of steps of that bulk the law DeskPlays returns true, and its arguments read as they did; listed, and tied to the text: what errors.errorType holds. -/
import Derived.Test.YteipfdjpndhgkaaGreatDoorRows
import Derived.Test.YteipfdjpndhgkaaGreatDoorCards
import Derived.Test.YteipfdjpndhgkaaGreatDoorTie
import Derived.Test.YteipfdjpndhgkaaGreatDoorCDkOpenB
import Derived.Test.YteipfdjpndhgkaaGreatDoorCDpLaw
import Derived.ProofKit
import Derived.OpenShut
import Derived.ChangeMaps5
import Derived.LaidLaws
import Derived.LaidHandle
import Derived.Deep.DeepHandedRow
import Derived.Lib.LaidTab
import Derived.Lib.SmallJoins
import Derived.JoinedCond
import Derived.SevenTiedAt
namespace Go.Proofs.YteipfdjpndhgkaaGreatDoor
open Go.ChangeShapes Go.WideShapes Go.ChangeAt Go.ChangeMaps Go.RowKit Go.Joins

theorem dq_own : ownKnob Tryz.prog.godebug = none := by kernel_rfl
theorem dq_etGlobal : Tryz.prog.globalNamed "errors.errorType" = some 0 := by kernel_rfl
theorem dq_rtType : (Tryz.prog.cutTypes.find? (·.1 == "internal/reflectlite.rtype")).map (·.2) = some 231 := by kernel_rfl
theorem dq_errRow : ((List.range 316).filter fun t => Tryz.prog.rowNamed t [101, 114, 114, 111, 114]) = [25] := by kernel_rfl
theorem dq_typesSize : Tryz.prog.types.size = 316 := by kernel_rfl
/-- What the listed handle gives: the variable's one cell. -/
theorem dq_handle {W : World} (h : handlesMet Tryz.prog [("errors.errorType", Rows.laid_errors_errorType)] W) : ErrType W := by
  obtain ⟨name, u, ty, e1, e2, e3, e4, e5⟩ := h _ (List.mem_singleton.2 rfl)
  have en : name = [101, 114, 114, 111, 114] := (Option.some.inj e1).symm
  subst en
  obtain rfl := Option.some.inj (dq_rtType.symm.trans e2)
  have hm : ty ∈ (List.range 316).filter fun t => Tryz.prog.rowNamed t [101, 114, 114, 111, 114] := List.mem_filter.2 ⟨List.mem_range.2 (by rw [← dq_typesSize]; exact e3), e4⟩
  rw [dq_errRow] at hm
  obtain rfl := List.mem_singleton.1 hm
  have hh : typeHandle Tryz.prog 25 = .pointer (some ⟨2, 25, none⟩) := by kernel_rfl
  rw [hh] at e5
  simpa using World.var?_cell dq_etGlobal e5 0
theorem dq_laid {W : World} (h : laidMetH Tryz.prog Rows.deskPlaysUptoRow.laid W) : ErrType W := by
  have h' : laidMet Tryz.prog [] W ∧ handlesMet Tryz.prog [("errors.errorType", Rows.laid_errors_errorType)] W := h
  exact dq_handle h'.2
/-- What the bound says of the steps. -/
theorem dq_bulk {H : Type} (a d : DataW H) (h : Rows.uptoSmall H ([a, d] ++ []) = true) : Rows.uptoBulk d ≤ 1048576 := by
  have h2 : Rows.uptoBulkAll (H := H) [a, d] ≤ 1048576 := of_decide_eq_true h
  simp only [Rows.uptoBulkAll] at h2
  omega
set_option maxRecDepth 100000 in
/-- The call at every argument of that bulk, from every world in which the listed variable lies. -/
theorem dq_contract {T : Td} (V : DFace T) {H : Type} (enc : TypeId × Value → H) (W : World) (base : Nat) (args : Array Value) (ds gs : List (DataW H)) (before : List MemPlace)
    (hval : ∀ (j : Nat) t v, Tryz.f3.params[j]? = some t → args[j]? = some v → Value.okWide Tryz.prog W .any base t v)
    (hW : DataW.Whole enc Tryz.prog Tryz.f3.params.toList Rows.deskPlaysSpec.vars false W args.toList ds gs before) (hk : Rows.uptoSmall H (ds ++ gs) = true) (hL : laidMetH Tryz.prog Rows.deskPlaysUptoRow.laid W) :
    Calls Tryz.prog 3 args W fun e W' => ∃ v, e = .returned v ∧ Rows.deskPlaysSpec.post enc Tryz.prog Tryz.f3 false true false false W args v W' := by
  have hW' := hW
  obtain ⟨p, q, hA, hV, rfl, hfz, hnd⟩ := hW
  rw [Tryz.params3] at hA hval
  obtain ⟨v0, v1, d0, d1, p0, p1, rfl, rfl, rfl, h0, h1⟩ := trodAll_two hA
  obtain ⟨rfl, rfl⟩ := trodVars_none hV
  have hlt1 : ∀ x ∈ p1, x.block < W.heap.size := fun x hx => by simpa using hW'.lt x (by simp [hx])
  obtain ⟨a, rfl, rfl, rfl, wa⟩ := open_int Tryz.underlying3 (hval 0 3 v0 rfl rfl) h0
  obtain ⟨pp, cp, l, rfl, hll, hsl, hsn, hsz⟩ := open_stepsB (hval 1 22 v1 rfl rfl) h1
  have hbk := dq_bulk _ d1 hk
  simp only [List.append_nil, List.nil_append] at hW'
  refine (law_desk V a l pp cp W (by unfold maxLen at hll; omega) hsl (fun x hx => (hsn x hx).1) (fun x hx => by have := hsz x hx; omega) (dq_laid hL)).mono fun e W' ⟨he, hb⟩ => ?_
  subst he
  have e1 : Rows.deskPlaysSpec.fn H ([.lit (.int .i64 a), d1] ++ []) = { results := [.lit (.bool true)], args := [.lit (.int .i64 a), d1] } := by simp [Rows.deskPlaysSpec]
  refine ⟨_, rfl, _, _, _, [], [] ++ p1, [], by simpa using hW', ?_, ?_, ?_, hb.frame _, fun h => by cases h⟩
  · rw [e1]; exact trodAll_mk1 (shut_bool Tryz.underlying4 true)
  · rw [e1]; exact trodAll_mk2 (shut_int Tryz.underlying3 wa) (Below.trod laid_out (by kernel_rfl) (of_decide_eq_true (by kernel_rfl)) h1 hb (fun x hx => hlt1 x hx))
  · rw [e1]; rfl
def dq_lay (cs : Array Value) : Obj → Obj
  | .cells _ t frozen => .cells cs t frozen
  | o => o
/-- A world that meets the row's list. -/
theorem dq_met (os : Os) : laidMetH Tryz.prog Rows.deskPlaysUptoRow.laid (({ World.holding Tryz.prog os ⟨#[], #[], []⟩ with heap := (World.holding Tryz.prog os ⟨#[], #[], []⟩).heap.modify 0 (dq_lay #[.iface 231 (.agg #[.pointer (some ⟨2, 25, none⟩)])]) } : World).forCall (fun _ _ => 0) ⟨#[], #[.int .i64 0, .slice none 0 0], []⟩).memory :=
  laidMetH_of_parts (laidMet_nil _ _) (by kernel_rfl)
theorem dq_reads (os : Os) {H : Type} (enc : TypeId × Value → H) : ∃ places, DataW.whole enc Tryz.prog (({ World.holding Tryz.prog os ⟨#[], #[], []⟩ with heap := (World.holding Tryz.prog os ⟨#[], #[], []⟩).heap.modify 0 (dq_lay #[.iface 231 (.agg #[.pointer (some ⟨2, 25, none⟩)])]) } : World).forCall (fun _ _ => 0) ⟨#[], #[.int .i64 0, .slice none 0 0], []⟩).memory Tryz.f3.params.toList Rows.deskPlaysSpec.vars false (#[.int .i64 0, .slice none 0 0] : Array Value).toList 8 = some ([.lit (.int .i64 0), .nil], [], places) :=
  ⟨[], by kernel_rfl⟩
set_option maxRecDepth 100000 in
theorem dq_lifted {T : Td} (V : DFace T) (os : Os) (started : os.Started) (H : Type) (enc : TypeId × Value → H) (F : Stop.Interp) :
    ReturnsInHanded {} Tryz.checked os 3 .any ((Rows.OpenSpec.upto Rows.deskPlaysSpec).preRow enc Tryz.prog Tryz.f3 Rows.deskPlaysUptoRow.domain false Rows.deskPlaysUptoRow.laid) (((Rows.OpenSpec.upto Rows.deskPlaysSpec).at F).post enc Tryz.prog Tryz.f3 false true false false) := by
  obtain ⟨places, hx⟩ := dq_reads os enc
  refine returnsInHanded_of_row (C := Tryz.checked) (s := Rows.OpenSpec.upto Rows.deskPlaysSpec) dq_own started (by kernel_rfl) Tryz.func3
    (witness_row_at (enc := enc) (C := Tryz.checked) false ({ World.holding Tryz.prog os ⟨#[], #[], []⟩ with heap := (World.holding Tryz.prog os ⟨#[], #[], []⟩).heap.modify 0 (dq_lay #[.iface 231 (.agg #[.pointer (some ⟨2, 25, none⟩)])]) } : World) #[.int .i64 0, .slice none 0 0] rfl (by kernel_rfl) (by kernel_rfl) (by kernel_rfl)
      (OpenSpec.preRow_of_cond 8 hx (by kernel_rfl) (fun k hk => by cases hk; kernel_rfl) (by kernel_rfl) (dq_met os))) ?_
  intro W base args ds gs before hval hW _ hcond _ hL _ _
  exact dq_contract V enc W base args ds gs before hval hW (hcond _ rfl) hL
theorem dq_said {T : Td} (V : DFace T) : Rows.DeskPlaysUptoSaid :=
  OpenClaim.holds_of_cond 3 Tryz.f3 rfl rfl rfl rfl rfl rfl rfl ⟨rfl, rfl, rfl, rfl, rfl⟩ rfl rfl rfl rfl rfl (by kernel_rfl) Tryz.func3 (by kernel_rfl)
    (of_decide_eq_true (by kernel_rfl)) (by unfold Func.isWrapper; rw [if_neg (of_decide_eq_false (by kernel_rfl))]; exact ⟨rfl, rfl⟩)
    (fun os started H enc _ F => by rw [OpenClaim.pre_eq_preRow]; exact dq_lifted V os started H enc F)
theorem dq_plain (f : FuncId) (fn : Func) (hf : Tryz.pinned.checked.prog.funcNamed "burgage/burgagelaw2.DeskPlays" = some f) (hfn : Tryz.pinned.checked.prog.funcs[f]? = some fn) :
    true = Tryz.pinned.checked.prog.looks [] ∧ ∀ (j : Nat) t, fn.params[j]? = some t → Tryz.pinned.checked.prog.wantsStandIn t = false := by
  obtain rfl : f = 3 := Option.some.inj ((show Tryz.prog.funcNamed "burgage/burgagelaw2.DeskPlays" = some 3 by kernel_rfl).symm.trans hf) |>.symm
  obtain rfl : fn = Tryz.f3 := (Option.some.inj (Tryz.func3.symm.trans hfn)).symm
  refine ⟨by kernel_rfl, fun j t ht => ?_⟩
  rw [Tryz.params3] at ht
  have ht' : t = 3 ∨ t = 22 := by
    have := Array.mem_of_getElem? ht
    simp at this
    omega
  rcases ht' with rfl | rfl
  · exact (show Tryz.prog.wantsStandIn 3 = false by kernel_rfl)
  · exact (show Tryz.prog.wantsStandIn 22 = false by kernel_rfl)
/-- The card of DeskPlays: for every input of that bulk the law returns true. -/
theorem deskPlays_card' {T : Td} (V : DFace T) : Rows.DeskPlaysUptoCardSaid :=
  Claim7.holds_tied_plain_at .later [] _ _ _ _ (dq_said V) (fun _ h => by cases h) (by kernel_rfl) (fun _ h => by cases h) deskPlaysUpto_row_tie rfl ⟨rfl, rfl⟩ (by kernel_rfl) rfl dq_plain (by kernel_rfl)
end Go.Proofs.YteipfdjpndhgkaaGreatDoor

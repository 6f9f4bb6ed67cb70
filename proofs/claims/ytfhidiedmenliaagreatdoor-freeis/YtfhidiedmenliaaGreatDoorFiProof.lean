/- For every prefix, every list of prefixes and every number the law FreeIs returns true, and its arguments read as they did; listed, and tied to the text: the tables of math/bits, and what errors.errorType holds. -/
import Derived.Test.YtfhidiedmenliaaGreatDoorRows
import Derived.Test.YtfhidiedmenliaaGreatDoorCards
import Derived.Test.YtfhidiedmenliaaGreatDoorTie
import Derived.Test.YtfhidiedmenliaaGreatDoorCvOpen
import Derived.Test.YtfhidiedmenliaaGreatDoorFiLawE
import Derived.ProofKit
import Derived.OpenShut
import Derived.LaidLaws
import Derived.LaidHandle
import Derived.Deep.DeepHandedRow
import Derived.JoinedCond
import Derived.Lib.LaidTab
import Derived.Lib.SmallJoins
import Derived.SevenTiedAt
namespace Go.Proofs.YtfhidiedmenliaaGreatDoor
open Go.ChangeShapes Go.WideShapes Go.ChangeAt Go.RowKit Go.Joins

theorem fe_own : ownKnob Tryz.prog.godebug = none := by kernel_rfl
theorem fe_etGlobal : Tryz.prog.globalNamed "errors.errorType" = some 0 := by kernel_rfl
theorem fe_rtType : (Tryz.prog.cutTypes.find? (·.1 == "internal/reflectlite.rtype")).map (·.2) = some 110 := by kernel_rfl
theorem fe_errRow : ((List.range 184).filter fun t => Tryz.prog.rowNamed t [101, 114, 114, 111, 114]) = [31] := by kernel_rfl
theorem fe_typesSize : Tryz.prog.types.size = 184 := by kernel_rfl

/-- What the listed handle gives: the variable's one cell. -/
theorem fe_handle {W : World} (h : handlesMet Tryz.prog [("errors.errorType", Rows.laid_errors_errorType)] W) : ErrType W := by
  obtain ⟨name, u, ty, e1, e2, e3, e4, e5⟩ := h _ (List.mem_singleton.2 rfl)
  have en : name = [101, 114, 114, 111, 114] := (Option.some.inj e1).symm
  subst en
  obtain rfl := Option.some.inj (fe_rtType.symm.trans e2)
  have hm : ty ∈ (List.range 184).filter fun t => Tryz.prog.rowNamed t [101, 114, 114, 111, 114] := List.mem_filter.2 ⟨List.mem_range.2 (by rw [← fe_typesSize]; exact e3), e4⟩
  rw [fe_errRow] at hm
  obtain rfl := List.mem_singleton.1 hm
  have hh : typeHandle Tryz.prog 31 = .pointer (some ⟨3, 31, none⟩) := by kernel_rfl
  rw [hh] at e5
  simpa using World.var?_cell fe_etGlobal e5 0
theorem fe_laid {W : World} (h : laidMetH Tryz.prog Rows.freeIsRow.laid W) : Tab W ∧ ErrType W := by
  have h' : laidMet Tryz.prog [("math/bits.deBruijn32tab", Rows.laid_math_bits_deBruijn32tab), ("math/bits.deBruijn64tab", Rows.laid_math_bits_deBruijn64tab)] W ∧ handlesMet Tryz.prog [("errors.errorType", Rows.laid_errors_errorType)] W := h
  refine ⟨?_, fe_handle h'.2⟩
  obtain ⟨ps, ⟨_, _, _, _, _, _, _, _, _, _, h2, _⟩, _⟩ := h'.1
  exact tab_of_vars h2

set_option maxRecDepth 100000 in
theorem fe_contract {H : Type} (enc : TypeId × Value → H) (W : World) (base : Nat) (args : Array Value) (ds gs : List (DataW H)) (before : List MemPlace)
    (hval : ∀ (j : Nat) t v, Tryz.f3.params[j]? = some t → args[j]? = some v → Value.okWide Tryz.prog W .any base t v)
    (hW : DataW.Whole enc Tryz.prog Tryz.f3.params.toList Rows.freeIsSpec.vars false W args.toList ds gs before) (hL : laidMetH Tryz.prog Rows.freeIsRow.laid W) :
    Calls Tryz.prog 3 args W fun e W' => ∃ v, e = .returned v ∧ Rows.freeIsSpec.post enc Tryz.prog Tryz.f3 false true false false W args v W' := by
  have hW' := hW
  obtain ⟨p, q, hA, hV, rfl, hfz, hnd⟩ := hW
  rw [Tryz.params3] at hA hval
  obtain ⟨v0, v1, v2, d0, d1, d2, p0, p1, p2, rfl, rfl, rfl, h0, h1, h2⟩ := trodAll_three hA
  obtain ⟨rfl, rfl⟩ := trodVars_none hV
  obtain ⟨c0, c1, y0, y1, m, rfl, rfl, rfl, hy0, hy1⟩ := open_agg2 Tryz.underlying23 (by kernel_rfl) pfx_cells (hval 0 23 v0 rfl rfl) h0
  obtain ⟨a, e0, rfl, wa⟩ := DataW.trod_int Tryz.underlying3 hy0
  obtain ⟨z, e1, rfl, wz⟩ := DataW.trod_int Tryz.underlying3 hy1
  simp at e0 e1
  subst e0 e1
  obtain ⟨n, rfl, rfl, rfl, wn⟩ := open_int Tryz.underlying3 (hval 2 3 v2 rfl rfl) h2
  have hlt : ∀ x ∈ p1, x.block < W.heap.size := fun x hx => by simpa using hW'.lt x (by simpa using hx)
  obtain ⟨pl, cl, l, rfl, hll, hsl⟩ := open_pfxs (hval 1 24 v1 rfl rfl) h1
  simp only [List.append_nil, List.nil_append] at hW'
  have reads : ∀ (W' : World) (sp : Nat → Bool), DataW.Trod enc Tryz.prog W' 0 sp true 23 (pfx a z) (.agg [.lit (.int .i64 a), .lit (.int .i64 z)]) [] := fun W' sp =>
    shut_agg2 (y0 := (.lit (.int .i64 a), [])) (y1 := (.lit (.int .i64 z), [])) Tryz.underlying23 (by kernel_rfl) pfx_cells ⟨1, by simp [DataW.trod, Tryz.underlying3, wa]⟩ ⟨1, by simp [DataW.trod, Tryz.underlying3, wz]⟩
  refine (law_free a z n l pl cl W (by unfold maxLen at hll; omega) hsl (fe_laid hL).1 (fe_laid hL).2).mono fun e W' ⟨he, hb⟩ => ?_
  subst he
  have e1 : Rows.freeIsSpec.fn H ([.agg [.lit (.int .i64 a), .lit (.int .i64 z)], d1, .lit (.int .i64 n)] ++ []) = { results := [.lit (.bool true)], args := [.agg [.lit (.int .i64 a), .lit (.int .i64 z)], d1, .lit (.int .i64 n)] } := by simp [Rows.freeIsSpec]
  refine ⟨_, rfl, _, _, _, [], [] ++ (p1 ++ []), [], by simpa using hW', ?_, ?_, ?_, hb.frame _, fun h => by cases h⟩
  · rw [e1]; exact trodAll_mk1 (shut_bool Tryz.underlying4 true)
  · rw [e1]; exact trodAll_mk3 (reads _ _) (Below.trod laid_out (by kernel_rfl) (of_decide_eq_true (by kernel_rfl)) h1 hb (fun x hx => hlt x hx)) (shut_int Tryz.underlying3 wn)
  · rw [e1]; rfl

theorem fe_met (os : Os) : laidMetH Tryz.prog Rows.freeIsRow.laid (({ World.holding Tryz.prog os ⟨#[], #[], []⟩ with heap := (((World.holding Tryz.prog os ⟨#[], #[], []⟩).heap.modify 1 (layCv cvTab32)).modify 2 (layCv cvTab64)).modify 0 (layCv #[.iface 110 (.agg #[.pointer (some ⟨3, 31, none⟩)])]) } : World).forCall (fun _ _ => 0) ⟨#[], #[pfx 0 0, .slice none 0 0, .int .i64 0], []⟩).memory :=
  laidMetH_of_parts (laidMet_of_run' 8 (by kernel_rfl) (by kernel_rfl)) (by kernel_rfl)
theorem fe_reads (os : Os) {H : Type} (enc : TypeId × Value → H) : ∃ places, DataW.whole enc Tryz.prog (({ World.holding Tryz.prog os ⟨#[], #[], []⟩ with heap := (((World.holding Tryz.prog os ⟨#[], #[], []⟩).heap.modify 1 (layCv cvTab32)).modify 2 (layCv cvTab64)).modify 0 (layCv #[.iface 110 (.agg #[.pointer (some ⟨3, 31, none⟩)])]) } : World).forCall (fun _ _ => 0) ⟨#[], #[pfx 0 0, .slice none 0 0, .int .i64 0], []⟩).memory Tryz.f3.params.toList Rows.freeIsSpec.vars false (#[pfx 0 0, .slice none 0 0, .int .i64 0] : Array Value).toList 8 = some ([.agg [.lit (.int .i64 0), .lit (.int .i64 0)], .nil, .lit (.int .i64 0)], [], places) :=
  ⟨[], by kernel_rfl⟩

set_option maxRecDepth 100000 in
theorem fe_lifted (os : Os) (started : os.Started) (H : Type) (enc : TypeId × Value → H) (F : Stop.Interp) :
    ReturnsInHanded {} Tryz.checked os 3 .any ((OpenSpec.ofChange Rows.freeIsSpec).preRow enc Tryz.prog Tryz.f3 Rows.freeIsRow.domain false Rows.freeIsRow.laid) (((OpenSpec.ofChange Rows.freeIsSpec).at F).post enc Tryz.prog Tryz.f3 false true false false) := by
  obtain ⟨places, hx⟩ := fe_reads os enc
  refine returnsInHanded_of_row (C := Tryz.checked) (s := OpenSpec.ofChange Rows.freeIsSpec) fe_own started (by kernel_rfl) Tryz.func3
    (witness_row_at (enc := enc) (C := Tryz.checked) false ({ World.holding Tryz.prog os ⟨#[], #[], []⟩ with heap := (((World.holding Tryz.prog os ⟨#[], #[], []⟩).heap.modify 1 (layCv cvTab32)).modify 2 (layCv cvTab64)).modify 0 (layCv #[.iface 110 (.agg #[.pointer (some ⟨3, 31, none⟩)])]) } : World) #[pfx 0 0, .slice none 0 0, .int .i64 0] rfl (by kernel_rfl) (by kernel_rfl) (by kernel_rfl)
      (OpenSpec.preRow_of_cond 8 hx (by kernel_rfl) (fun k hk => by cases hk) (by kernel_rfl) (fe_met os))) ?_
  intro W base args ds gs before hval hW _ _ _ hL _ _
  exact fe_contract enc W base args ds gs before hval hW hL

theorem fe_said : Rows.FreeIsSaid :=
  OpenClaim.holds_of_cond 3 Tryz.f3 rfl rfl rfl rfl rfl rfl rfl ⟨rfl, rfl, rfl, rfl, rfl⟩ rfl rfl rfl rfl rfl (by kernel_rfl) Tryz.func3 (by kernel_rfl)
    (of_decide_eq_true (by kernel_rfl)) (by unfold Func.isWrapper; rw [if_neg (of_decide_eq_false (by kernel_rfl))]; exact ⟨rfl, rfl⟩)
    (fun os started H enc _ F => by rw [OpenClaim.pre_eq_preRow]; exact fe_lifted os started H enc F)

theorem fe_plain (f : FuncId) (fn : Func) (hf : Tryz.pinned.checked.prog.funcNamed "burgage/burgagelaw1.FreeIs" = some f) (hfn : Tryz.pinned.checked.prog.funcs[f]? = some fn) :
    true = Tryz.pinned.checked.prog.looks [] ∧ ∀ (j : Nat) t, fn.params[j]? = some t → Tryz.pinned.checked.prog.wantsStandIn t = false := by
  obtain rfl : f = 3 := Option.some.inj ((show Tryz.prog.funcNamed "burgage/burgagelaw1.FreeIs" = some 3 by kernel_rfl).symm.trans hf) |>.symm
  obtain rfl : fn = Tryz.f3 := (Option.some.inj (Tryz.func3.symm.trans hfn)).symm
  refine ⟨by kernel_rfl, fun j t ht => ?_⟩
  rw [Tryz.params3] at ht
  have ht' : t = 23 ∨ t = 24 ∨ t = 3 := by
    have := Array.mem_of_getElem? ht
    simp at this
    omega
  rcases ht' with rfl | rfl | rfl
  · exact (show Tryz.prog.wantsStandIn 23 = false by kernel_rfl)
  · exact (show Tryz.prog.wantsStandIn 24 = false by kernel_rfl)
  · exact (show Tryz.prog.wantsStandIn 3 = false by kernel_rfl)

/-- The card of FreeIs: for every input the law returns true. -/
theorem freeIs_card : Rows.FreeIsCardSaid :=
  Claim7.holds_tied_plain_at .later [] _ _ _ _ fe_said (fun _ h => by cases h) (by kernel_rfl) (fun _ h => by cases h) freeIs_row_tie rfl ⟨rfl, rfl⟩ (by kernel_rfl) rfl fe_plain (by kernel_rfl)
#print axioms freeIs_card
end Go.Proofs.YtfhidiedmenliaaGreatDoor

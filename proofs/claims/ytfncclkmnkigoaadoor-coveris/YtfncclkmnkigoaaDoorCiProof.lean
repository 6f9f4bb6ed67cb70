/- For every span, every list of spans and every list of prefixes the law CoverIs returns true, and its arguments read as they did; listed, and tied to the text: the tables of math/bits, and what errors.errorType holds. -/
import Derived.Test.YtfncclkmnkigoaaDoorRows
import Derived.Test.YtfncclkmnkigoaaDoorCards
import Derived.Test.YtfncclkmnkigoaaDoorTie
import Derived.Test.YtfncclkmnkigoaaDoorCvOpen
import Derived.Test.YtfncclkmnkigoaaDoorCiLawB
import Derived.ProofKit
import Derived.OpenShut
import Derived.LaidLaws
import Derived.LaidHandle
import Derived.Deep.DeepHandedRow
import Derived.JoinedCond
import Derived.Lib.LaidTab
import Derived.Lib.SmallJoins
import Derived.SevenTiedAt
namespace Go.Proofs.YtfncclkmnkigoaaDoor
open Go.ChangeShapes Go.WideShapes Go.ChangeAt Go.RowKit Go.Joins

theorem is_own : ownKnob Tryd.prog.godebug = none := by kernel_rfl
theorem is_etGlobal : Tryd.prog.globalNamed "errors.errorType" = some 0 := by kernel_rfl
theorem is_rtType : (Tryd.prog.cutTypes.find? (·.1 == "internal/reflectlite.rtype")).map (·.2) = some 123 := by kernel_rfl
theorem is_errRow : ((List.range 184).filter fun t => Tryd.prog.rowNamed t [101, 114, 114, 111, 114]) = [29] := by kernel_rfl
theorem is_typesSize : Tryd.prog.types.size = 184 := by kernel_rfl

/-- What the listed handle gives: the variable's one cell. -/
theorem is_handle {W : World} (h : handlesMet Tryd.prog [("errors.errorType", Rows.laid_errors_errorType)] W) : ErrType W := by
  obtain ⟨name, u, ty, e1, e2, e3, e4, e5⟩ := h _ (List.mem_singleton.2 rfl)
  have en : name = [101, 114, 114, 111, 114] := (Option.some.inj e1).symm
  subst en
  obtain rfl := Option.some.inj (is_rtType.symm.trans e2)
  have hm : ty ∈ (List.range 184).filter fun t => Tryd.prog.rowNamed t [101, 114, 114, 111, 114] := List.mem_filter.2 ⟨List.mem_range.2 (by rw [← is_typesSize]; exact e3), e4⟩
  rw [is_errRow] at hm
  obtain rfl := List.mem_singleton.1 hm
  have hh : typeHandle Tryd.prog 29 = .pointer (some ⟨3, 29, none⟩) := by kernel_rfl
  rw [hh] at e5
  simpa using World.var?_cell is_etGlobal e5 0
theorem is_laid {W : World} (h : laidMetH Tryd.prog Rows.coverIsRow.laid W) : Tab W ∧ ErrType W := by
  have h' : laidMet Tryd.prog [("math/bits.deBruijn32tab", Rows.laid_math_bits_deBruijn32tab), ("math/bits.deBruijn64tab", Rows.laid_math_bits_deBruijn64tab)] W ∧ handlesMet Tryd.prog [("errors.errorType", Rows.laid_errors_errorType)] W := h
  refine ⟨?_, is_handle h'.2⟩
  obtain ⟨ps, ⟨_, _, _, _, _, _, _, _, _, _, h2, _⟩, _⟩ := h'.1
  exact tab_of_vars h2

set_option maxRecDepth 100000 in
theorem is_contract {H : Type} (enc : TypeId × Value → H) (W : World) (base : Nat) (args : Array Value) (ds gs : List (DataW H)) (before : List MemPlace)
    (hval : ∀ (j : Nat) t v, Tryd.f4.params[j]? = some t → args[j]? = some v → Value.okWide Tryd.prog W .any base t v)
    (hW : DataW.Whole enc Tryd.prog Tryd.f4.params.toList Rows.coverIsSpec.vars false W args.toList ds gs before) (hL : laidMetH Tryd.prog Rows.coverIsRow.laid W) :
    Calls Tryd.prog 4 args W fun e W' => ∃ v, e = .returned v ∧ Rows.coverIsSpec.post enc Tryd.prog Tryd.f4 false true false false W args v W' := by
  have hW' := hW
  obtain ⟨p, q, hA, hV, rfl, hfz, hnd⟩ := hW
  rw [Tryd.params4] at hA hval
  obtain ⟨v0, v1, v2, d0, d1, d2, p0, p1, p2, rfl, rfl, rfl, h0, h1, h2⟩ := trodAll_three hA
  obtain ⟨rfl, rfl⟩ := trodVars_none hV
  obtain ⟨c0, c1, y0, y1, m, rfl, rfl, rfl, hy0, hy1⟩ := open_agg2 Tryd.underlying26 (by kernel_rfl) span_cells (hval 0 26 v0 rfl rfl) h0
  obtain ⟨a, e0, rfl, wa⟩ := DataW.trod_int Tryd.underlying3 hy0
  obtain ⟨z, e1, rfl, wz⟩ := DataW.trod_int Tryd.underlying3 hy1
  simp at e0 e1
  subst e0 e1
  have hlt : ∀ x ∈ p1 ++ p2, x.block < W.heap.size := fun x hx => by simpa using hW'.lt x (by simpa using hx)
  obtain ⟨pl, cl, l, rfl, hll, hsl⟩ := open_spans (hval 1 22 v1 rfl rfl) h1
  obtain ⟨pp, cp, r, rfl, hlr, hsr⟩ := open_pfxs (hval 2 43 v2 rfl rfl) h2
  simp only [List.append_nil, List.nil_append] at hW'
  have reads : ∀ (W' : World) (sp : Nat → Bool), DataW.Trod enc Tryd.prog W' 0 sp true 26 (pfx a z) (.agg [.lit (.int .i64 a), .lit (.int .i64 z)]) [] := fun W' sp =>
    shut_agg2 (y0 := (.lit (.int .i64 a), [])) (y1 := (.lit (.int .i64 z), [])) Tryd.underlying26 (by kernel_rfl) span_cells ⟨1, by simp [DataW.trod, Tryd.underlying3, wa]⟩ ⟨1, by simp [DataW.trod, Tryd.underlying3, wz]⟩
  refine (law_is a z l r pl pp cl cp W (by unfold maxLen at hll; omega) (by unfold maxLen at hlr; omega) hsl hsr (is_laid hL).1 (is_laid hL).2).mono fun e W' ⟨he, hb⟩ => ?_
  subst he
  have e1 : Rows.coverIsSpec.fn H ([.agg [.lit (.int .i64 a), .lit (.int .i64 z)], d1, d2] ++ []) = { results := [.lit (.bool true)], args := [.agg [.lit (.int .i64 a), .lit (.int .i64 z)], d1, d2] } := by simp [Rows.coverIsSpec]
  refine ⟨_, rfl, _, _, _, [], [] ++ (p1 ++ p2), [], hW', ?_, ?_, ?_, hb.frame _, fun h => by cases h⟩
  · rw [e1]; exact trodAll_mk1 (shut_bool Tryd.underlying4 true)
  · rw [e1]; exact trodAll_mk3 (reads _ _) (Below.trod laid_out (by kernel_rfl) (of_decide_eq_true (by kernel_rfl)) h1 hb (fun x hx => hlt x (by simp [hx]))) (Below.trod laid_out (by kernel_rfl) (of_decide_eq_true (by kernel_rfl)) h2 hb (fun x hx => hlt x (by simp [hx])))
  · rw [e1]; rfl

theorem is_met (os : Os) : laidMetH Tryd.prog Rows.coverIsRow.laid (({ World.holding Tryd.prog os ⟨#[], #[], []⟩ with heap := (((World.holding Tryd.prog os ⟨#[], #[], []⟩).heap.modify 1 (layCv cvTab32)).modify 2 (layCv cvTab64)).modify 0 (layCv #[.iface 123 (.agg #[.pointer (some ⟨3, 29, none⟩)])]) } : World).forCall (fun _ _ => 0) ⟨#[], #[pfx 0 0, .slice none 0 0, .slice none 0 0], []⟩).memory :=
  laidMetH_of_parts (laidMet_of_run' 8 (by kernel_rfl) (by kernel_rfl)) (by kernel_rfl)
theorem is_reads (os : Os) {H : Type} (enc : TypeId × Value → H) : ∃ places, DataW.whole enc Tryd.prog (({ World.holding Tryd.prog os ⟨#[], #[], []⟩ with heap := (((World.holding Tryd.prog os ⟨#[], #[], []⟩).heap.modify 1 (layCv cvTab32)).modify 2 (layCv cvTab64)).modify 0 (layCv #[.iface 123 (.agg #[.pointer (some ⟨3, 29, none⟩)])]) } : World).forCall (fun _ _ => 0) ⟨#[], #[pfx 0 0, .slice none 0 0, .slice none 0 0], []⟩).memory Tryd.f4.params.toList Rows.coverIsSpec.vars false (#[pfx 0 0, .slice none 0 0, .slice none 0 0] : Array Value).toList 8 = some ([.agg [.lit (.int .i64 0), .lit (.int .i64 0)], .nil, .nil], [], places) :=
  ⟨[], by kernel_rfl⟩

set_option maxRecDepth 100000 in
theorem is_lifted (os : Os) (started : os.Started) (H : Type) (enc : TypeId × Value → H) (F : Stop.Interp) :
    ReturnsInHanded {} Tryd.checked os 4 .any ((OpenSpec.ofChange Rows.coverIsSpec).preRow enc Tryd.prog Tryd.f4 Rows.coverIsRow.domain false Rows.coverIsRow.laid) (((OpenSpec.ofChange Rows.coverIsSpec).at F).post enc Tryd.prog Tryd.f4 false true false false) := by
  obtain ⟨places, hx⟩ := is_reads os enc
  refine returnsInHanded_of_row (C := Tryd.checked) (s := OpenSpec.ofChange Rows.coverIsSpec) is_own started (by kernel_rfl) Tryd.func4
    (witness_row_at (enc := enc) (C := Tryd.checked) false ({ World.holding Tryd.prog os ⟨#[], #[], []⟩ with heap := (((World.holding Tryd.prog os ⟨#[], #[], []⟩).heap.modify 1 (layCv cvTab32)).modify 2 (layCv cvTab64)).modify 0 (layCv #[.iface 123 (.agg #[.pointer (some ⟨3, 29, none⟩)])]) } : World) #[pfx 0 0, .slice none 0 0, .slice none 0 0] rfl (by kernel_rfl) (by kernel_rfl) (by kernel_rfl)
      (OpenSpec.preRow_of_cond 8 hx (by kernel_rfl) (fun k hk => by cases hk) (by kernel_rfl) (is_met os))) ?_
  intro W base args ds gs before hval hW _ _ _ hL _ _
  exact is_contract enc W base args ds gs before hval hW hL

theorem is_said : Rows.CoverIsSaid :=
  OpenClaim.holds_of_cond 4 Tryd.f4 rfl rfl rfl rfl rfl rfl rfl ⟨rfl, rfl, rfl, rfl, rfl⟩ rfl rfl rfl rfl rfl (by kernel_rfl) Tryd.func4 (by kernel_rfl)
    (of_decide_eq_true (by kernel_rfl)) (by unfold Func.isWrapper; rw [if_neg (of_decide_eq_false (by kernel_rfl))]; exact ⟨rfl, rfl⟩)
    (fun os started H enc _ F => by rw [OpenClaim.pre_eq_preRow]; exact is_lifted os started H enc F)

theorem is_plain (f : FuncId) (fn : Func) (hf : Tryd.pinned.checked.prog.funcNamed "burgage/burgagelaw1.CoverIs" = some f) (hfn : Tryd.pinned.checked.prog.funcs[f]? = some fn) :
    true = Tryd.pinned.checked.prog.looks [] ∧ ∀ (j : Nat) t, fn.params[j]? = some t → Tryd.pinned.checked.prog.wantsStandIn t = false := by
  obtain rfl : f = 4 := Option.some.inj ((show Tryd.prog.funcNamed "burgage/burgagelaw1.CoverIs" = some 4 by kernel_rfl).symm.trans hf) |>.symm
  obtain rfl : fn = Tryd.f4 := (Option.some.inj (Tryd.func4.symm.trans hfn)).symm
  refine ⟨by kernel_rfl, fun j t ht => ?_⟩
  rw [Tryd.params4] at ht
  have ht' : t = 26 ∨ t = 22 ∨ t = 43 := by
    have := Array.mem_of_getElem? ht
    simp at this
    omega
  rcases ht' with rfl | rfl | rfl
  · exact (show Tryd.prog.wantsStandIn 26 = false by kernel_rfl)
  · exact (show Tryd.prog.wantsStandIn 22 = false by kernel_rfl)
  · exact (show Tryd.prog.wantsStandIn 43 = false by kernel_rfl)

/-- The card of CoverIs: for every input the law returns true. -/
theorem coverIs_card : Rows.CoverIsCardSaid :=
  Claim7.holds_tied_plain_at .later [] _ _ _ _ is_said (fun _ h => by cases h) (by kernel_rfl) (fun _ h => by cases h) coverIs_row_tie rfl ⟨rfl, rfl⟩ (by kernel_rfl) rfl is_plain (by kernel_rfl)
#print axioms coverIs_card
end Go.Proofs.YtfncclkmnkigoaaDoor

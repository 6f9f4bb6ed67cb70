/- For every list of steps, every prefix, number and bool the law PlotBack returns true, and its arguments read as they did; listed, and tied to the text: the tables of math/bits and internal/strconv, what errors.errorType holds. -/
import Derived.Test.YthaggkmammfpbaaGreatDoorRows
import Derived.Test.YthaggkmammfpbaaGreatDoorCards
import Derived.Test.YthaggkmammfpbaaGreatDoorTie
import Derived.Test.YthaggkmammfpbaaGreatDoorECvOpen
import Derived.Test.YthaggkmammfpbaaGreatDoorEHkOpen
import Derived.Test.YthaggkmammfpbaaGreatDoorEPbFactsA
import Derived.Test.YthaggkmammfpbaaGreatDoorEPbFactsB
import Derived.Test.YthaggkmammfpbaaGreatDoorEPbFactsC
import Derived.Test.YthaggkmammfpbaaGreatDoorEDcL
import Derived.ProofKit
import Derived.OpenShut
import Derived.LaidLaws
import Derived.LaidHandle
import Derived.Deep.DeepHandedRow
import Derived.JoinedCond
import Derived.Lib.LaidTab
import Derived.Lib.SmallJoins
import Derived.Shelf.Vars
import Derived.SevenTiedAt
namespace Go.Proofs.YthaggkmammfpbaaGreatDoor
open Go.ChangeShapes Go.WideShapes Go.ChangeAt Go.RowKit Go.Joins

theorem pk_own : ownKnob Tryz.prog.godebug = none := by kernel_rfl
def hpPow : Array Value := #[.int .u64 1, .int .u64 10, .int .u64 100, .int .u64 1000, .int .u64 10000, .int .u64 100000, .int .u64 1000000, .int .u64 10000000, .int .u64 100000000, .int .u64 1000000000, .int .u64 10000000000, .int .u64 100000000000, .int .u64 1000000000000, .int .u64 10000000000000, .int .u64 100000000000000, .int .u64 1000000000000000, .int .u64 10000000000000000, .int .u64 100000000000000000, .int .u64 1000000000000000000, .int .u64 10000000000000000000]
theorem pk_etGlobal : Tryz.prog.globalNamed "errors.errorType" = some 0 := by kernel_rfl
theorem pk_rtType : (Tryz.prog.cutTypes.find? (·.1 == "internal/reflectlite.rtype")).map (·.2) = some 340 := by kernel_rfl
theorem pk_errRow : ((List.range 512).filter fun t => Tryz.prog.rowNamed t [101, 114, 114, 111, 114]) = [25] := by kernel_rfl
theorem pk_typesSize : Tryz.prog.types.size = 512 := by kernel_rfl
theorem pk_handle {W : World} (h : handlesMet Tryz.prog [("errors.errorType", Rows.laid_errors_errorType)] W) : ErrType W := by
  obtain ⟨name, u, ty, e1, e2, e3, e4, e5⟩ := h _ (List.mem_singleton.2 rfl)
  have en : name = [101, 114, 114, 111, 114] := (Option.some.inj e1).symm
  subst en
  obtain rfl := Option.some.inj (pk_rtType.symm.trans e2)
  have hm : ty ∈ (List.range 512).filter fun t => Tryz.prog.rowNamed t [101, 114, 114, 111, 114] := List.mem_filter.2 ⟨List.mem_range.2 (by rw [← pk_typesSize]; exact e3), e4⟩
  rw [pk_errRow] at hm
  obtain rfl := List.mem_singleton.1 hm
  have hh : typeHandle Tryz.prog 25 = .pointer (some ⟨5, 25, none⟩) := by kernel_rfl
  rw [hh] at e5
  simpa using World.var?_cell pk_etGlobal e5 0
theorem pk_laid {W : World} (h : laidMetH Tryz.prog Rows.plotBackRow.laid W) : Sa.Tab W ∧ ErrType W := by
  have h' : laidMet Tryz.prog [("math/bits.deBruijn32tab", Rows.laid_math_bits_deBruijn32tab), ("math/bits.deBruijn64tab", Rows.laid_math_bits_deBruijn64tab), ("internal/strconv.uint64pow10", Rows.laid_internal_strconv_uint64pow10)] W ∧ handlesMet Tryz.prog [("errors.errorType", Rows.laid_errors_errorType)] W := h
  obtain ⟨⟨ps, ⟨_, _, _, _, _, _, _, _, _, _, h2, _⟩, _⟩, h3⟩ := h'
  exact ⟨Sa.tab_of_vars h2, pk_handle h3⟩
theorem pk_globalsSize : Tryz.prog.globals.size = 5 := by kernel_rfl
theorem pk_maxL {W : World} (h : W.ShapedOpen Tryz.prog) : Pa.MaxL W :=
  cell_of_shapedOpen_int (g := 1) (t := 3) (zero := #[.int .i64 0]) h (by rw [pk_globalsSize]; decide) (by kernel_rfl) rfl (by kernel_rfl) (by kernel_rfl) Tryz.underlying3
set_option maxRecDepth 100000 in
theorem pk_contract {H : Type} (enc : TypeId × Value → H) (W : World) (base : Nat) (args : Array Value) (ds gs : List (DataW H)) (before : List MemPlace)
    (hval : ∀ (j : Nat) t v, Tryz.f6.params[j]? = some t → args[j]? = some v → Value.okWide Tryz.prog W .any base t v)
    (hW : DataW.Whole enc Tryz.prog Tryz.f6.params.toList Rows.plotBackSpec.vars false W args.toList ds gs before) (hL : laidMetH Tryz.prog Rows.plotBackRow.laid W) (hsh : W.ShapedOpen Tryz.prog) :
    Calls Tryz.prog 6 args W fun e W' => ∃ v, e = .returned v ∧ Rows.plotBackSpec.post enc Tryz.prog Tryz.f6 false true false false W args v W' := by
  have hW' := hW
  obtain ⟨p, q, hA, hV, rfl, hfz, hnd⟩ := hW
  rw [Tryz.params6] at hA hval
  obtain ⟨v0, v1, v2, v3, d0, d1, d2, d3, p0, p1, p2, p3, rfl, rfl, rfl, h0, h1, h2, h3⟩ := trodAll_four hA
  obtain ⟨rfl, rfl⟩ := trodVars_none hV
  have hlt0 : ∀ x ∈ p0, x.block < W.heap.size := fun x hx => by simpa using hW'.lt x (by simp [hx])
  have hlt1 : ∀ x ∈ p1, x.block < W.heap.size := fun x hx => by simpa using hW'.lt x (by simp [hx])
  have hlt2 : ∀ x ∈ p2, x.block < W.heap.size := fun x hx => by simpa using hW'.lt x (by simp [hx])
  have hlt3 : ∀ x ∈ p3, x.block < W.heap.size := fun x hx => by simpa using hW'.lt x (by simp [hx])
  obtain ⟨pp, cp, l, rfl, hll, hsl, hsx⟩ := Pa.open_hs (hval 0 22 v0 rfl rfl) h0
  obtain ⟨P, rfl⟩ := Pa.open_prefix (hval 1 31 v1 rfl rfl) h1
  obtain ⟨a, rfl⟩ := okWide_int Tryz.underlying3 (hval 2 3 v2 rfl rfl)
  obtain ⟨ap, rfl⟩ := okWide_bool Tryz.underlying4 (hval 3 4 v3 rfl rfl)
  simp only [List.append_nil] at hW'
  refine (Pa.law_back dface l pp cp P a ap W (by unfold maxLen at hll; omega) hsl ⟨(pk_laid hL).1, pk_maxL hsh⟩ (pk_laid hL).2).mono fun e W' ⟨he, hb⟩ => ?_
  subst he
  have e1 : Rows.plotBackSpec.fn H ([d0, d1, d2, d3] ++ []) = { results := [.lit (.bool true)], args := [d0, d1, d2, d3] } := by simp [Rows.plotBackSpec]
  refine ⟨_, rfl, _, _, _, [], p0 ++ (p1 ++ (p2 ++ p3)), [], by simpa using hW', ?_, ?_, ?_, hb.frame _, fun h => by cases h⟩
  · rw [e1]; exact trodAll_mk1 (shut_bool Tryz.underlying4 true)
  · rw [e1]; exact trodAll_mk4 (Below.trod Pa.hlaid_out (by kernel_rfl) (of_decide_eq_true (by kernel_rfl)) h0 hb (fun x hx => hlt0 x hx)) (Below.trod Pa.hlaid_out (by kernel_rfl) (of_decide_eq_true (by kernel_rfl)) h1 hb (fun x hx => hlt1 x hx)) (Below.trod Pa.hlaid_out (by kernel_rfl) (of_decide_eq_true (by kernel_rfl)) h2 hb (fun x hx => hlt2 x hx)) (Below.trod Pa.hlaid_out (by kernel_rfl) (of_decide_eq_true (by kernel_rfl)) h3 hb (fun x hx => hlt3 x hx))
  · rw [e1]; rfl

theorem pk_met (os : Os) : laidMetH Tryz.prog Rows.plotBackRow.laid (({ World.holding Tryz.prog os ⟨#[], #[], []⟩ with heap := (((((World.holding Tryz.prog os ⟨#[], #[], []⟩).heap.modify 3 (Sa.layCv Sa.cvTab32)).modify 4 (Sa.layCv Sa.cvTab64)).modify 2 (Sa.layCv hpPow)).modify 0 (Sa.layCv #[.iface 340 (.agg #[.pointer (some ⟨5, 25, none⟩)])])) } : World).forCall (fun _ _ => 0) ⟨#[], #[.slice none 0 0, .agg #[.int .i64 0, .int .i64 0], .int .i64 0, .bool false], []⟩).memory :=
  laidMetH_of_parts (laidMet_of_run' 8 (by kernel_rfl) (by kernel_rfl)) (by kernel_rfl)
theorem pk_reads (os : Os) {H : Type} (enc : TypeId × Value → H) : ∃ places, DataW.whole enc Tryz.prog (({ World.holding Tryz.prog os ⟨#[], #[], []⟩ with heap := (((((World.holding Tryz.prog os ⟨#[], #[], []⟩).heap.modify 3 (Sa.layCv Sa.cvTab32)).modify 4 (Sa.layCv Sa.cvTab64)).modify 2 (Sa.layCv hpPow)).modify 0 (Sa.layCv #[.iface 340 (.agg #[.pointer (some ⟨5, 25, none⟩)])])) } : World).forCall (fun _ _ => 0) ⟨#[], #[.slice none 0 0, .agg #[.int .i64 0, .int .i64 0], .int .i64 0, .bool false], []⟩).memory Tryz.f6.params.toList Rows.plotBackSpec.vars false (#[.slice none 0 0, .agg #[.int .i64 0, .int .i64 0], .int .i64 0, .bool false] : Array Value).toList 8 = some ([.nil, .agg [.lit (.int .i64 0), .lit (.int .i64 0)], .lit (.int .i64 0), .lit (.bool false)], [], places) :=
  ⟨[], by kernel_rfl⟩

set_option maxRecDepth 100000 in
theorem pk_lifted (os : Os) (started : os.Started) (H : Type) (enc : TypeId × Value → H) (F : Stop.Interp) :
    ReturnsInHanded {} Tryz.checked os 6 .any ((OpenSpec.ofChange Rows.plotBackSpec).preRow enc Tryz.prog Tryz.f6 Rows.plotBackRow.domain false Rows.plotBackRow.laid) (((OpenSpec.ofChange Rows.plotBackSpec).at F).post enc Tryz.prog Tryz.f6 false true false false) := by
  obtain ⟨places, hx⟩ := pk_reads os enc
  refine returnsInHanded_of_row (C := Tryz.checked) (s := OpenSpec.ofChange Rows.plotBackSpec) pk_own started (by kernel_rfl) Tryz.func6
    (witness_row_at (enc := enc) (C := Tryz.checked) false ({ World.holding Tryz.prog os ⟨#[], #[], []⟩ with heap := (((((World.holding Tryz.prog os ⟨#[], #[], []⟩).heap.modify 3 (Sa.layCv Sa.cvTab32)).modify 4 (Sa.layCv Sa.cvTab64)).modify 2 (Sa.layCv hpPow)).modify 0 (Sa.layCv #[.iface 340 (.agg #[.pointer (some ⟨5, 25, none⟩)])])) } : World) #[.slice none 0 0, .agg #[.int .i64 0, .int .i64 0], .int .i64 0, .bool false] rfl (by kernel_rfl) (by kernel_rfl) (by kernel_rfl)
      (OpenSpec.preRow_of_cond 8 hx (by kernel_rfl) (fun k hk => by cases hk) (by kernel_rfl) (pk_met os))) ?_
  intro W base args ds gs before hval hW _ _ _ hL hsh _
  exact pk_contract enc W base args ds gs before hval hW hL hsh

set_option maxRecDepth 100000 in
theorem pk_closed : joinedFacts Tryz.pinned.checked.prog 6 Tryz.f6 (OpenSpec.ofChange Rows.plotBackSpec).bare Rows.plotBackRow = true := by
  unfold joinedFacts
  simp only [Bool.and_eq_true]
  exact ⟨⟨⟨⟨⟨⟨⟨⟨⟨⟨⟨⟨⟨⟨⟨⟨⟨⟨⟨⟨⟨⟨⟨⟨⟨⟨⟨⟨⟨⟨⟨pk_k1, pk_k2⟩, pk_k3⟩, pk_k4⟩, pk_k5⟩, pk_k6⟩, pk_k7⟩, pk_k8⟩, pk_k9⟩, pk_k10⟩, pk_k11⟩, pk_k12⟩, pk_k13⟩, pk_k14⟩, pk_k15⟩, pk_k16⟩, pk_k17⟩, pk_k18⟩, pk_k19⟩, pk_k20⟩, pk_k21⟩, pk_k22⟩, pk_k23⟩, pk_k24⟩, pk_k25⟩, pk_k26⟩, pk_k27⟩, pk_k28⟩, pk_k29⟩, pk_k30⟩, pk_k31⟩, pk_k32⟩
theorem pk_said : Rows.PlotBackSaid :=
  OpenClaim.holds_of_cond 6 Tryz.f6 rfl rfl rfl rfl rfl rfl rfl ⟨rfl, rfl, rfl, rfl, rfl⟩ rfl rfl rfl rfl rfl pk_fn Tryz.func6 pk_closed pk_inst pk_wrap
    (fun os started H enc _ F => by rw [OpenClaim.pre_eq_preRow]; exact pk_lifted os started H enc F)

theorem pk_plain (f : FuncId) (fn : Func) (hf : Tryz.pinned.checked.prog.funcNamed "burgage/burgagelaw3.PlotBack" = some f) (hfn : Tryz.pinned.checked.prog.funcs[f]? = some fn) :
    true = Tryz.pinned.checked.prog.looks [] ∧ ∀ (j : Nat) t, fn.params[j]? = some t → Tryz.pinned.checked.prog.wantsStandIn t = false := by
  obtain rfl : f = 6 := Option.some.inj ((show Tryz.prog.funcNamed "burgage/burgagelaw3.PlotBack" = some 6 by kernel_rfl).symm.trans hf) |>.symm
  obtain rfl : fn = Tryz.f6 := (Option.some.inj (Tryz.func6.symm.trans hfn)).symm
  refine ⟨by kernel_rfl, fun j t ht => ?_⟩
  rw [Tryz.params6] at ht
  have ht' : t = 22 ∨ t = 31 ∨ t = 3 ∨ t = 4 := by
    have := Array.mem_of_getElem? ht
    simpa using this
  rcases ht' with rfl | rfl | rfl | rfl
  · exact (show Tryz.prog.wantsStandIn 22 = false by kernel_rfl)
  · exact (show Tryz.prog.wantsStandIn 31 = false by kernel_rfl)
  · exact (show Tryz.prog.wantsStandIn 3 = false by kernel_rfl)
  · exact (show Tryz.prog.wantsStandIn 4 = false by kernel_rfl)
theorem plotBack_card : Rows.PlotBackCardSaid :=
  Claim7.holds_tied_plain_at .later [] _ _ _ _ pk_said (fun _ h => by cases h) pk_wfby (fun _ h => by cases h) plotBack_row_tie rfl ⟨rfl, rfl⟩ (by kernel_rfl) rfl pk_plain pk_goes
#print axioms plotBack_card
end Go.Proofs.YthaggkmammfpbaaGreatDoor


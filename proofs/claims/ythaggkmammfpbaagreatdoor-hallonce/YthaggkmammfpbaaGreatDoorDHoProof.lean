/- For every list of steps and every call the law HallOnce returns true, and its arguments read as they did; listed, and tied to the text: the tables of math/bits and internal/strconv. -/
import Derived.Test.YthaggkmammfpbaaGreatDoorRows
import Derived.Test.YthaggkmammfpbaaGreatDoorCards
import Derived.Test.YthaggkmammfpbaaGreatDoorTie
import Derived.Test.YthaggkmammfpbaaGreatDoorDCvOpen
import Derived.Test.YthaggkmammfpbaaGreatDoorDHkOpen
import Derived.Test.YthaggkmammfpbaaGreatDoorDHoFactsA
import Derived.Test.YthaggkmammfpbaaGreatDoorDHoFactsB
import Derived.Test.YthaggkmammfpbaaGreatDoorDHoFactsC
import Derived.Test.YthaggkmammfpbaaGreatDoorDDcL
import Derived.ProofKit
import Derived.OpenShut
import Derived.LaidLaws
import Derived.LaidHandle
import Derived.Deep.DeepHandedRow
import Derived.JoinedCond
import Derived.Lib.LaidTab
import Derived.Lib.SmallJoins
import Derived.Shelf.Vars
import Derived.SevenTiedAt
namespace Go.Proofs.YthaggkmammfpbaaGreatDoor
open Go.ChangeShapes Go.WideShapes Go.ChangeAt Go.RowKit Go.Joins

theorem ho_own : ownKnob Tryz.prog.godebug = none := by kernel_rfl
def hpPow : Array Value := #[.int .u64 1, .int .u64 10, .int .u64 100, .int .u64 1000, .int .u64 10000, .int .u64 100000, .int .u64 1000000, .int .u64 10000000, .int .u64 100000000, .int .u64 1000000000, .int .u64 10000000000, .int .u64 100000000000, .int .u64 1000000000000, .int .u64 10000000000000, .int .u64 100000000000000, .int .u64 1000000000000000, .int .u64 10000000000000000, .int .u64 100000000000000000, .int .u64 1000000000000000000, .int .u64 10000000000000000000]
theorem ho_laid {W : World} (h : laidMetH Tryz.prog Rows.hallOnceRow.laid W) : Sa.Tab W := by
  have h' : laidMet Tryz.prog [("math/bits.deBruijn32tab", Rows.laid_math_bits_deBruijn32tab), ("math/bits.deBruijn64tab", Rows.laid_math_bits_deBruijn64tab), ("internal/strconv.uint64pow10", Rows.laid_internal_strconv_uint64pow10)] W := h
  obtain ⟨ps, ⟨_, _, _, _, _, _, _, _, _, _, h2, _⟩, _⟩ := h'
  exact Sa.tab_of_vars h2
theorem ho_globalsSize : Tryz.prog.globals.size = 5 := by kernel_rfl
theorem ho_maxL {W : World} (h : W.ShapedOpen Tryz.prog) : Pa.MaxL W :=
  cell_of_shapedOpen_int (g := 1) (t := 3) (zero := #[.int .i64 0]) h (by rw [ho_globalsSize]; decide) (by kernel_rfl) rfl (by kernel_rfl) (by kernel_rfl) Tryz.underlying3
set_option maxRecDepth 100000 in
theorem ho_contract {H : Type} (enc : TypeId × Value → H) (W : World) (base : Nat) (args : Array Value) (ds gs : List (DataW H)) (before : List MemPlace)
    (hval : ∀ (j : Nat) t v, Tryz.f7.params[j]? = some t → args[j]? = some v → Value.okWide Tryz.prog W .any base t v)
    (hW : DataW.Whole enc Tryz.prog Tryz.f7.params.toList Rows.hallOnceSpec.vars false W args.toList ds gs before) (hL : laidMetH Tryz.prog Rows.hallOnceRow.laid W) (hsh : W.ShapedOpen Tryz.prog) :
    Calls Tryz.prog 7 args W fun e W' => ∃ v, e = .returned v ∧ Rows.hallOnceSpec.post enc Tryz.prog Tryz.f7 false true false false W args v W' := by
  have hW' := hW
  obtain ⟨p, q, hA, hV, rfl, hfz, hnd⟩ := hW
  rw [Tryz.params7] at hA hval
  obtain ⟨v0, v1, d0, d1, p0, p1, rfl, rfl, rfl, h0, h1⟩ := trodAll_two hA
  obtain ⟨rfl, rfl⟩ := trodVars_none hV
  have hlt0 : ∀ x ∈ p0, x.block < W.heap.size := fun x hx => by simpa using hW'.lt x (by simpa using .inl hx)
  have hlt1 : ∀ x ∈ p1, x.block < W.heap.size := fun x hx => by simpa using hW'.lt x (by simpa using .inr hx)
  obtain ⟨pp, cp, l, rfl, hll, hsl, hsx⟩ := Pa.open_hs (hval 0 22 v0 rfl rfl) h0
  obtain ⟨c, hc, rfl⟩ := Pa.open_call (hval 1 33 v1 rfl rfl) h1
  simp only [List.append_nil] at hW'
  refine (Pa.law_once dface l pp cp c W (by unfold maxLen at hll; omega) hsl ⟨ho_laid hL, ho_maxL hsh⟩).mono fun e W' ⟨he, hb⟩ => ?_
  subst he
  have e1 : Rows.hallOnceSpec.fn H ([d0, d1] ++ []) = { results := [.lit (.bool true)], args := [d0, d1] } := by simp [Rows.hallOnceSpec]
  refine ⟨_, rfl, _, _, _, [], p0 ++ p1, [], by simpa using hW', ?_, ?_, ?_, hb.frame _, fun h => by cases h⟩
  · rw [e1]; exact trodAll_mk1 (shut_bool Tryz.underlying4 true)
  · rw [e1]; exact trodAll_mk2 (Below.trod Pa.hlaid_out (by kernel_rfl) (of_decide_eq_true (by kernel_rfl)) h0 hb (fun x hx => hlt0 x hx)) (Below.trod Pa.hlaid_out (by kernel_rfl) (of_decide_eq_true (by kernel_rfl)) h1 hb (fun x hx => hlt1 x hx))
  · rw [e1]; rfl

theorem ho_met (os : Os) : laidMetH Tryz.prog Rows.hallOnceRow.laid (({ World.holding Tryz.prog os ⟨#[], #[], []⟩ with heap := ((((World.holding Tryz.prog os ⟨#[], #[], []⟩).heap.modify 3 (Sa.layCv Sa.cvTab32)).modify 4 (Sa.layCv Sa.cvTab64)).modify 2 (Sa.layCv hpPow)) } : World).forCall (fun _ _ => 0) ⟨#[], #[.slice none 0 0, .agg #[.int .i64 0, .string ⟨#[]⟩, .int .i64 0, .int .i64 0, .int .i64 0, .int .i64 0, .string ⟨#[]⟩]], []⟩).memory :=
  laidMetH_of_parts (laidMet_of_run' 8 (by kernel_rfl) (by kernel_rfl)) (by kernel_rfl)
theorem ho_reads (os : Os) {H : Type} (enc : TypeId × Value → H) : ∃ places, DataW.whole enc Tryz.prog (({ World.holding Tryz.prog os ⟨#[], #[], []⟩ with heap := ((((World.holding Tryz.prog os ⟨#[], #[], []⟩).heap.modify 3 (Sa.layCv Sa.cvTab32)).modify 4 (Sa.layCv Sa.cvTab64)).modify 2 (Sa.layCv hpPow)) } : World).forCall (fun _ _ => 0) ⟨#[], #[.slice none 0 0, .agg #[.int .i64 0, .string ⟨#[]⟩, .int .i64 0, .int .i64 0, .int .i64 0, .int .i64 0, .string ⟨#[]⟩]], []⟩).memory Tryz.f7.params.toList Rows.hallOnceSpec.vars false (#[.slice none 0 0, .agg #[.int .i64 0, .string ⟨#[]⟩, .int .i64 0, .int .i64 0, .int .i64 0, .int .i64 0, .string ⟨#[]⟩]] : Array Value).toList 8 = some ([.nil, .agg [.lit (.int .i64 0), .lit (.string []), .agg [.lit (.int .i64 0), .lit (.int .i64 0)], .lit (.int .i64 0), .lit (.int .i64 0), .lit (.string [])]], [], places) :=
  ⟨[], by kernel_rfl⟩

set_option maxRecDepth 100000 in
theorem ho_lifted (os : Os) (started : os.Started) (H : Type) (enc : TypeId × Value → H) (F : Stop.Interp) :
    ReturnsInHanded {} Tryz.checked os 7 .any ((OpenSpec.ofChange Rows.hallOnceSpec).preRow enc Tryz.prog Tryz.f7 Rows.hallOnceRow.domain false Rows.hallOnceRow.laid) (((OpenSpec.ofChange Rows.hallOnceSpec).at F).post enc Tryz.prog Tryz.f7 false true false false) := by
  obtain ⟨places, hx⟩ := ho_reads os enc
  refine returnsInHanded_of_row (C := Tryz.checked) (s := OpenSpec.ofChange Rows.hallOnceSpec) ho_own started (by kernel_rfl) Tryz.func7
    (witness_row_at (enc := enc) (C := Tryz.checked) false ({ World.holding Tryz.prog os ⟨#[], #[], []⟩ with heap := ((((World.holding Tryz.prog os ⟨#[], #[], []⟩).heap.modify 3 (Sa.layCv Sa.cvTab32)).modify 4 (Sa.layCv Sa.cvTab64)).modify 2 (Sa.layCv hpPow)) } : World) #[.slice none 0 0, .agg #[.int .i64 0, .string ⟨#[]⟩, .int .i64 0, .int .i64 0, .int .i64 0, .int .i64 0, .string ⟨#[]⟩]] rfl (by kernel_rfl) (by kernel_rfl) (by kernel_rfl)
      (OpenSpec.preRow_of_cond 8 hx (by kernel_rfl) (fun k hk => by cases hk) (by kernel_rfl) (ho_met os))) ?_
  intro W base args ds gs before hval hW _ _ _ hL hsh _
  exact ho_contract enc W base args ds gs before hval hW hL hsh

set_option maxRecDepth 100000 in
theorem ho_closed : joinedFacts Tryz.pinned.checked.prog 7 Tryz.f7 (OpenSpec.ofChange Rows.hallOnceSpec).bare Rows.hallOnceRow = true := by
  unfold joinedFacts
  simp only [Bool.and_eq_true]
  exact ⟨⟨⟨⟨⟨⟨⟨⟨⟨⟨⟨⟨⟨⟨⟨⟨⟨⟨⟨⟨⟨⟨⟨⟨⟨⟨⟨⟨⟨⟨⟨ho_k1, ho_k2⟩, ho_k3⟩, ho_k4⟩, ho_k5⟩, ho_k6⟩, ho_k7⟩, ho_k8⟩, ho_k9⟩, ho_k10⟩, ho_k11⟩, ho_k12⟩, ho_k13⟩, ho_k14⟩, ho_k15⟩, ho_k16⟩, ho_k17⟩, ho_k18⟩, ho_k19⟩, ho_k20⟩, ho_k21⟩, ho_k22⟩, ho_k23⟩, ho_k24⟩, ho_k25⟩, ho_k26⟩, ho_k27⟩, ho_k28⟩, ho_k29⟩, ho_k30⟩, ho_k31⟩, ho_k32⟩
theorem ho_said : Rows.HallOnceSaid :=
  OpenClaim.holds_of_cond 7 Tryz.f7 rfl rfl rfl rfl rfl rfl rfl ⟨rfl, rfl, rfl, rfl, rfl⟩ rfl rfl rfl rfl rfl ho_fn Tryz.func7 ho_closed ho_inst ho_wrap
    (fun os started H enc _ F => by rw [OpenClaim.pre_eq_preRow]; exact ho_lifted os started H enc F)

theorem ho_plain (f : FuncId) (fn : Func) (hf : Tryz.pinned.checked.prog.funcNamed "burgage/burgagelaw3.HallOnce" = some f) (hfn : Tryz.pinned.checked.prog.funcs[f]? = some fn) :
    true = Tryz.pinned.checked.prog.looks [] ∧ ∀ (j : Nat) t, fn.params[j]? = some t → Tryz.pinned.checked.prog.wantsStandIn t = false := by
  obtain rfl : f = 7 := Option.some.inj ((show Tryz.prog.funcNamed "burgage/burgagelaw3.HallOnce" = some 7 by kernel_rfl).symm.trans hf) |>.symm
  obtain rfl : fn = Tryz.f7 := (Option.some.inj (Tryz.func7.symm.trans hfn)).symm
  refine ⟨by kernel_rfl, fun j t ht => ?_⟩
  rw [Tryz.params7] at ht
  have ht' : t = 22 ∨ t = 33 := by
    have := Array.mem_of_getElem? ht
    simpa using this
  rcases ht' with rfl | rfl
  · exact (show Tryz.prog.wantsStandIn 22 = false by kernel_rfl)
  · exact (show Tryz.prog.wantsStandIn 33 = false by kernel_rfl)
/-- The card of HallOnce: for every input the law returns true. -/
theorem hallOnce_card : Rows.HallOnceCardSaid :=
  Claim7.holds_tied_plain_at .later [] _ _ _ _ ho_said (fun _ h => by cases h) ho_wfby (fun _ h => by cases h) hallOnce_row_tie rfl ⟨rfl, rfl⟩ (by kernel_rfl) rfl ho_plain ho_goes
#print axioms hallOnce_card
end Go.Proofs.YthaggkmammfpbaaGreatDoor


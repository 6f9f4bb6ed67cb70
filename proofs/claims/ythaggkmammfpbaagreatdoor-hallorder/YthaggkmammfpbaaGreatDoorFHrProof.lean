/- For every list of steps the law HallOrder returns true, and its argument reads as it did; listed, and tied to the text: the tables of math/bits and internal/strconv. -/
import Derived.Test.YthaggkmammfpbaaGreatDoorRows
import Derived.Test.YthaggkmammfpbaaGreatDoorCards
import Derived.Test.YthaggkmammfpbaaGreatDoorTie
import Derived.Test.YthaggkmammfpbaaGreatDoorFCvOpen
import Derived.Test.YthaggkmammfpbaaGreatDoorFHkOpen
import Derived.Test.YthaggkmammfpbaaGreatDoorFHrFactsA
import Derived.Test.YthaggkmammfpbaaGreatDoorFHrFactsB
import Derived.Test.YthaggkmammfpbaaGreatDoorFHrFactsC
import Derived.Test.YthaggkmammfpbaaGreatDoorFDcL
import Derived.ProofKit
import Derived.OpenShut
import Derived.LaidLaws
import Derived.LaidHandle
import Derived.Deep.DeepHandedRow
import Derived.JoinedCond
import Derived.Lib.LaidTab
import Derived.Lib.SmallJoins
import Derived.Shelf.Vars
import Derived.SevenTiedAt
set_option maxRecDepth 100000
namespace Go.Proofs.YthaggkmammfpbaaGreatDoor
open Go.ChangeShapes Go.WideShapes Go.ChangeAt Go.RowKit Go.Joins
theorem hr_own : ownKnob Tryz.prog.godebug = none := by kernel_rfl
def hpPow : Array Value := #[.int .u64 1,.int .u64 10,.int .u64 100,.int .u64 1000,.int .u64 10000,.int .u64 100000,.int .u64 1000000,.int .u64 10000000,.int .u64 100000000,.int .u64 1000000000,.int .u64 10000000000,.int .u64 100000000000,.int .u64 1000000000000,.int .u64 10000000000000,.int .u64 100000000000000,.int .u64 1000000000000000,.int .u64 10000000000000000,.int .u64 100000000000000000,.int .u64 1000000000000000000,.int .u64 10000000000000000000]
theorem hr_laid {W : World} (h : laidMetH Tryz.prog Rows.hallOrderRow.laid W) : Sa.Tab W := by
 have h' : laidMet Tryz.prog [("math/bits.deBruijn32tab",Rows.laid_math_bits_deBruijn32tab),("math/bits.deBruijn64tab",Rows.laid_math_bits_deBruijn64tab),("internal/strconv.uint64pow10",Rows.laid_internal_strconv_uint64pow10)] W := h
 obtain ⟨ps,⟨_,_,_,_,_,_,_,_,_,_,h2,_⟩,_⟩ := h'
 exact Sa.tab_of_vars h2
theorem hr_globalsSize : Tryz.prog.globals.size = 5 := by kernel_rfl
theorem hr_maxL {W : World} (h : W.ShapedOpen Tryz.prog) : Pa.MaxL W :=
 cell_of_shapedOpen_int (g := 1) (t := 3) (zero := #[.int .i64 0]) h (by rw [hr_globalsSize]; decide) (by kernel_rfl) rfl (by kernel_rfl) (by kernel_rfl) Tryz.underlying3
theorem hr_contract {H : Type} (enc : TypeId × Value -> H) (W : World) (base : Nat) (args : Array Value) (ds gs : List (DataW H)) (before : List MemPlace)
  (hval : ∀ (j : Nat) t v,Tryz.f8.params[j]? = some t -> args[j]? = some v -> Value.okWide Tryz.prog W .any base t v)
  (hW : DataW.Whole enc Tryz.prog Tryz.f8.params.toList Rows.hallOrderSpec.vars false W args.toList ds gs before) (hL : laidMetH Tryz.prog Rows.hallOrderRow.laid W) (hsh : W.ShapedOpen Tryz.prog) :
  Calls Tryz.prog 8 args W fun e W' => ∃ v,e = .returned v /\ Rows.hallOrderSpec.post enc Tryz.prog Tryz.f8 false true false false W args v W' := by
 have hW' := hW
 obtain ⟨p,q,hA,hV,rfl,hfz,hnd⟩ := hW
 rw [Tryz.params8] at hA hval
 obtain ⟨v0,d0,rfl,rfl,h0⟩ := trodAll_one hA
 obtain ⟨rfl,rfl⟩ := trodVars_none hV
 have hlt0 : ∀ x ∈ p,x.block < W.heap.size := fun x hx => by simpa using hW'.lt x (by simpa using hx)
 obtain ⟨pp,cp,l,rfl,hll,hsl,hsx⟩ := Pa.open_hs (hval 0 22 v0 rfl rfl) h0
 simp only [List.append_nil] at hW'
 refine (Pa.law_order dface l pp cp W (by unfold maxLen at hll; omega) hsl hsx ⟨hr_laid hL,hr_maxL hsh⟩).mono fun e W' ⟨he,hb⟩ => ?_
 subst he
 have e1 : Rows.hallOrderSpec.fn H ([d0] ++ []) = { results := [.lit (.bool true)],args := [d0] } := by simp [Rows.hallOrderSpec]
 refine ⟨_,rfl,_,_,_,[],p,[],by simpa using hW',?_,?_,?_,hb.frame _,fun h => by cases h⟩
 ·rw [e1]; exact trodAll_mk1 (shut_bool Tryz.underlying4 true)
 ·rw [e1]; exact trodAll_mk1 (Below.trod Pa.hlaid_out (by kernel_rfl) (of_decide_eq_true (by kernel_rfl)) h0 hb (fun x hx => hlt0 x hx))
 ·rw [e1]; rfl
theorem hr_met (os : Os) : laidMetH Tryz.prog Rows.hallOrderRow.laid (({ World.holding Tryz.prog os ⟨#[],#[],[]⟩ with heap := ((((World.holding Tryz.prog os ⟨#[],#[],[]⟩).heap.modify 3 (Sa.layCv Sa.cvTab32)).modify 4 (Sa.layCv Sa.cvTab64)).modify 2 (Sa.layCv hpPow)) } : World).forCall (fun _ _ => 0) ⟨#[],#[.slice none 0 0],[]⟩).memory :=
 laidMetH_of_parts (laidMet_of_run' 8 (by kernel_rfl) (by kernel_rfl)) (by kernel_rfl)
theorem hr_reads (os : Os) {H : Type} (enc : TypeId × Value -> H) : ∃ places,DataW.whole enc Tryz.prog (({ World.holding Tryz.prog os ⟨#[],#[],[]⟩ with heap := ((((World.holding Tryz.prog os ⟨#[],#[],[]⟩).heap.modify 3 (Sa.layCv Sa.cvTab32)).modify 4 (Sa.layCv Sa.cvTab64)).modify 2 (Sa.layCv hpPow)) } : World).forCall (fun _ _ => 0) ⟨#[],#[.slice none 0 0],[]⟩).memory Tryz.f8.params.toList Rows.hallOrderSpec.vars false (#[.slice none 0 0] : Array Value).toList 8 = some ([.nil],[],places) :=
 ⟨[],by kernel_rfl⟩
theorem hr_lifted (os : Os) (started : os.Started) (H : Type) (enc : TypeId × Value -> H) (F : Stop.Interp) :
  ReturnsInHanded {} Tryz.checked os 8 .any ((OpenSpec.ofChange Rows.hallOrderSpec).preRow enc Tryz.prog Tryz.f8 Rows.hallOrderRow.domain false Rows.hallOrderRow.laid) (((OpenSpec.ofChange Rows.hallOrderSpec).at F).post enc Tryz.prog Tryz.f8 false true false false) := by
 obtain ⟨places,hx⟩ := hr_reads os enc
 refine returnsInHanded_of_row (C := Tryz.checked) (s := OpenSpec.ofChange Rows.hallOrderSpec) hr_own started (by kernel_rfl) Tryz.func8
  (witness_row_at (enc := enc) (C := Tryz.checked) false ({ World.holding Tryz.prog os ⟨#[],#[],[]⟩ with heap := ((((World.holding Tryz.prog os ⟨#[],#[],[]⟩).heap.modify 3 (Sa.layCv Sa.cvTab32)).modify 4 (Sa.layCv Sa.cvTab64)).modify 2 (Sa.layCv hpPow)) } : World) #[.slice none 0 0] rfl (by kernel_rfl) (by kernel_rfl) (by kernel_rfl)
   (OpenSpec.preRow_of_cond 8 hx (by kernel_rfl) (fun k hk => by cases hk) (by kernel_rfl) (hr_met os))) ?_
 intro W base args ds gs before hval hW _ _ _ hL hsh _
 exact hr_contract enc W base args ds gs before hval hW hL hsh
theorem hr_closed : joinedFacts Tryz.pinned.checked.prog 8 Tryz.f8 (OpenSpec.ofChange Rows.hallOrderSpec).bare Rows.hallOrderRow = true := by
 unfold joinedFacts
 simp only [Bool.and_eq_true]
 exact ⟨⟨⟨⟨⟨⟨⟨⟨⟨⟨⟨⟨⟨⟨⟨⟨⟨⟨⟨⟨⟨⟨⟨⟨⟨⟨⟨⟨⟨⟨⟨hr_k1,hr_k2⟩,hr_k3⟩,hr_k4⟩,hr_k5⟩,hr_k6⟩,hr_k7⟩,hr_k8⟩,hr_k9⟩,hr_k10⟩,hr_k11⟩,hr_k12⟩,hr_k13⟩,hr_k14⟩,hr_k15⟩,hr_k16⟩,hr_k17⟩,hr_k18⟩,hr_k19⟩,hr_k20⟩,hr_k21⟩,hr_k22⟩,hr_k23⟩,hr_k24⟩,hr_k25⟩,hr_k26⟩,hr_k27⟩,hr_k28⟩,hr_k29⟩,hr_k30⟩,hr_k31⟩,hr_k32⟩
theorem hr_said : Rows.HallOrderSaid :=
 OpenClaim.holds_of_cond 8 Tryz.f8 rfl rfl rfl rfl rfl rfl rfl ⟨rfl,rfl,rfl,rfl,rfl⟩ rfl rfl rfl rfl rfl hr_fn Tryz.func8 hr_closed hr_inst hr_wrap
  (fun os started H enc _ F => by rw [OpenClaim.pre_eq_preRow]; exact hr_lifted os started H enc F)
theorem hr_plain (f : FuncId) (fn : Func) (hf : Tryz.pinned.checked.prog.funcNamed "burgage/burgagelaw3.HallOrder" = some f) (hfn : Tryz.pinned.checked.prog.funcs[f]? = some fn) :
  true = Tryz.pinned.checked.prog.looks [] /\ ∀ (j : Nat) t,fn.params[j]? = some t -> Tryz.pinned.checked.prog.wantsStandIn t = false := by
 obtain rfl : f = 8 := Option.some.inj ((show Tryz.prog.funcNamed "burgage/burgagelaw3.HallOrder" = some 8 by kernel_rfl).symm.trans hf) |>.symm
 obtain rfl : fn = Tryz.f8 := (Option.some.inj (Tryz.func8.symm.trans hfn)).symm
 refine ⟨by kernel_rfl,fun j t ht => ?_⟩
 rw [Tryz.params8] at ht
 have ht' : t = 22 := by
  have := Array.mem_of_getElem? ht
  simpa using this
 subst ht'
 exact (show Tryz.prog.wantsStandIn 22 = false by kernel_rfl)
theorem hallOrder_card : Rows.HallOrderCardSaid :=
 Claim7.holds_tied_plain_at .later [] _ _ _ _ hr_said (fun _ h => by cases h) hr_wfby (fun _ h => by cases h) hallOrder_row_tie rfl ⟨rfl,rfl⟩ (by kernel_rfl) rfl hr_plain hr_goes
#print axioms hallOrder_card
end Go.Proofs.YthaggkmammfpbaaGreatDoor

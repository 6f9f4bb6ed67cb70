/- For every number and every list of steps the law TopKept returns true, and its arguments read as they did; listed, and tied to the text: the tables of math/bits and internal/strconv. -/
import Derived.Test.YtmghmpclmphccaaGreatDoorRows
import Derived.Test.YtmghmpclmphccaaGreatDoorCards
import Derived.Test.YtmghmpclmphccaaGreatDoorTie
import Derived.Test.YtmghmpclmphccaaGreatDoorKCvOpen
import Derived.Test.YtmghmpclmphccaaGreatDoorKHtOpen
import Derived.Test.YtmghmpclmphccaaGreatDoorKKpFactsA
import Derived.Test.YtmghmpclmphccaaGreatDoorKKpFactsB
import Derived.Test.YtmghmpclmphccaaGreatDoorKKpFactsC
import Derived.Test.YtmghmpclmphccaaGreatDoorKDcL
import Derived.ProofKit
import Derived.OpenShut
import Derived.LaidLaws
import Derived.LaidHandle
import Derived.Deep.DeepHandedRow
import Derived.JoinedCond
import Derived.Lib.LaidTab
import Derived.Lib.SmallJoins
import Derived.Shelf.Vars
import Derived.SevenTiedAt
set_option maxRecDepth 100000
namespace Go.Proofs.YtmghmpclmphccaaGreatDoor
open Go.ChangeShapes Go.WideShapes Go.ChangeAt Go.RowKit Go.Joins
theorem kp_own:ownKnob Tryz.prog.godebug=none:=by kernel_rfl
def hpPow:Array Value:=#[.int .u64 1,.int .u64 10,.int .u64 100,.int .u64 1000,.int .u64 10000,.int .u64 100000,.int .u64 1000000,.int .u64 10000000,.int .u64 100000000,.int .u64 1000000000,.int .u64 10000000000,.int .u64 100000000000,.int .u64 1000000000000,.int .u64 10000000000000,.int .u64 100000000000000,.int .u64 1000000000000000,.int .u64 10000000000000000,.int .u64 100000000000000000,.int .u64 1000000000000000000,.int .u64 10000000000000000000]
theorem kp_laid {W:World} (h:laidMetH Tryz.prog Rows.topKeptRow.laid W):Sa.Tab W:=by
 have h':laidMet Tryz.prog [("math/bits.deBruijn32tab",Rows.laid_math_bits_deBruijn32tab),("math/bits.deBruijn64tab",Rows.laid_math_bits_deBruijn64tab),("internal/strconv.uint64pow10",Rows.laid_internal_strconv_uint64pow10)] W:=h
 obtain⟨ps,⟨_,_,_,_,_,_,_,_,_,_,h2,_⟩,_⟩:=h'
 exact Sa.tab_of_vars h2
theorem kp_globalsSize:Tryz.prog.globals.size=4:=by kernel_rfl
theorem kp_maxL {W:World} (h:W.ShapedOpen Tryz.prog):Pa.MaxL W:=
 cell_of_shapedOpen_int (g:=0) (t:=3) (zero:=#[.int .i64 0]) h (by rw[kp_globalsSize];decide) (by kernel_rfl) rfl (by kernel_rfl) (by kernel_rfl) Tryz.underlying3
theorem kp_contract {H:Type} (enc:TypeId×Value->H) (W:World) (base:Nat) (args:Array Value) (ds gs:List (DataW H)) (before:List MemPlace)
  (hval:∀ (j:Nat) t v,Tryz.f5.params[j]? = some t->args[j]? = some v->Value.okWide Tryz.prog W .any base t v)
  (hW:DataW.Whole enc Tryz.prog Tryz.f5.params.toList Rows.topKeptSpec.vars false W args.toList ds gs before) (hL:laidMetH Tryz.prog Rows.topKeptRow.laid W) (hsh:W.ShapedOpen Tryz.prog) :
  Calls Tryz.prog 5 args W fun e W'=>∃ v,e=.returned v/\Rows.topKeptSpec.post enc Tryz.prog Tryz.f5 false true false false W args v W':=by
 have hW':=hW
 obtain⟨p,q,hA,hV,rfl,hfz,hnd⟩:=hW
 rw[Tryz.params5] at hA hval
 obtain⟨v0,v1,d0,d1,p0,p1,rfl,rfl,rfl,h0,h1⟩:=trodAll_two hA
 obtain⟨rfl,rfl⟩:=trodVars_none hV
 have hlt0:∀ x∈p0,x.block<W.heap.size:=fun x hx=>by simpa using hW'.lt x (by simpa using .inl hx)
 have hlt1:∀ x∈p1,x.block<W.heap.size:=fun x hx=>by simpa using hW'.lt x (by simpa using .inr hx)
 obtain⟨a,rfl⟩:=okWide_int Tryz.underlying3 (hval 0 3 v0 rfl rfl)
 obtain⟨pp,cp,l,rfl,hll,hsl,hsx⟩:=Pa.open_hs (hval 1 22 v1 rfl rfl) h1
 simp only [List.append_nil] at hW'
 refine (Pa.law_kept dface a l pp cp W (by unfold maxLen at hll;omega) hsl hsx ⟨kp_laid hL,kp_maxL hsh⟩).mono fun e W' ⟨he,hb⟩=>?_
 subst he
 have e1:Rows.topKeptSpec.fn H ([d0,d1] ++ [])={ results:=[.lit (.bool true)],args:=[d0,d1] }:=by simp[Rows.topKeptSpec]
 refine⟨_,rfl,_,_,_,[],p0++p1,[],by simpa using hW',?_,?_,?_,hb.frame _,fun h=>by cases h⟩
 ·rw[e1];exact trodAll_mk1 (shut_bool Tryz.underlying4 true)
 ·rw[e1];exact trodAll_mk2 (Below.trod Pa.hlaid_out (by kernel_rfl) (of_decide_eq_true (by kernel_rfl)) h0 hb (fun x hx=>hlt0 x hx)) (Below.trod Pa.hlaid_out (by kernel_rfl) (of_decide_eq_true (by kernel_rfl)) h1 hb (fun x hx=>hlt1 x hx))
 ·rw[e1];rfl
theorem kp_met (os:Os):laidMetH Tryz.prog Rows.topKeptRow.laid (({ World.holding Tryz.prog os ⟨#[],#[],[]⟩ with heap:=((((World.holding Tryz.prog os ⟨#[],#[],[]⟩).heap.modify 2 (Sa.layCv Sa.cvTab32)).modify 3 (Sa.layCv Sa.cvTab64)).modify 1 (Sa.layCv hpPow)) }:World).forCall (fun _ _=>0) ⟨#[],#[.int .i64 0,.slice none 0 0],[]⟩).memory:=
 laidMetH_of_parts (laidMet_of_run' 8 (by kernel_rfl) (by kernel_rfl)) (by kernel_rfl)
theorem kp_reads (os:Os) {H:Type} (enc:TypeId×Value->H):∃ places,DataW.whole enc Tryz.prog (({ World.holding Tryz.prog os ⟨#[],#[],[]⟩ with heap:=((((World.holding Tryz.prog os ⟨#[],#[],[]⟩).heap.modify 2 (Sa.layCv Sa.cvTab32)).modify 3 (Sa.layCv Sa.cvTab64)).modify 1 (Sa.layCv hpPow)) }:World).forCall (fun _ _=>0) ⟨#[],#[.int .i64 0,.slice none 0 0],[]⟩).memory Tryz.f5.params.toList Rows.topKeptSpec.vars false (#[.int .i64 0,.slice none 0 0]:Array Value).toList 8=some ([.lit (.int .i64 0),.nil],[],places):=
 ⟨[],by kernel_rfl⟩
theorem kp_lifted (os:Os) (started:os.Started) (H:Type) (enc:TypeId×Value->H) (F:Stop.Interp) :
  ReturnsInHanded {} Tryz.checked os 5 .any ((OpenSpec.ofChange Rows.topKeptSpec).preRow enc Tryz.prog Tryz.f5 Rows.topKeptRow.domain false Rows.topKeptRow.laid) (((OpenSpec.ofChange Rows.topKeptSpec).at F).post enc Tryz.prog Tryz.f5 false true false false):=by
 obtain⟨places,hx⟩:=kp_reads os enc
 refine returnsInHanded_of_row (C:=Tryz.checked) (s:=OpenSpec.ofChange Rows.topKeptSpec) kp_own started (by kernel_rfl) Tryz.func5
  (witness_row_at (enc:=enc) (C:=Tryz.checked) false ({ World.holding Tryz.prog os ⟨#[],#[],[]⟩ with heap:=((((World.holding Tryz.prog os ⟨#[],#[],[]⟩).heap.modify 2 (Sa.layCv Sa.cvTab32)).modify 3 (Sa.layCv Sa.cvTab64)).modify 1 (Sa.layCv hpPow)) }:World) #[.int .i64 0,.slice none 0 0] rfl (by kernel_rfl) (by kernel_rfl) (by kernel_rfl)
   (OpenSpec.preRow_of_cond 8 hx (by kernel_rfl) (fun k hk=>by cases hk) (by kernel_rfl) (kp_met os))) ?_
 intro W base args ds gs before hval hW _ _ _ hL hsh _
 exact kp_contract enc W base args ds gs before hval hW hL hsh
theorem kp_closed:joinedFacts Tryz.pinned.checked.prog 5 Tryz.f5 (OpenSpec.ofChange Rows.topKeptSpec).bare Rows.topKeptRow=true:=by
 unfold joinedFacts
 simp only [Bool.and_eq_true]
 exact⟨⟨⟨⟨⟨⟨⟨⟨⟨⟨⟨⟨⟨⟨⟨⟨⟨⟨⟨⟨⟨⟨⟨⟨⟨⟨⟨⟨⟨⟨⟨kp_k1,kp_k2⟩,kp_k3⟩,kp_k4⟩,kp_k5⟩,kp_k6⟩,kp_k7⟩,kp_k8⟩,kp_k9⟩,kp_k10⟩,kp_k11⟩,kp_k12⟩,kp_k13⟩,kp_k14⟩,kp_k15⟩,kp_k16⟩,kp_k17⟩,kp_k18⟩,kp_k19⟩,kp_k20⟩,kp_k21⟩,kp_k22⟩,kp_k23⟩,kp_k24⟩,kp_k25⟩,kp_k26⟩,kp_k27⟩,kp_k28⟩,kp_k29⟩,kp_k30⟩,kp_k31⟩,kp_k32⟩
theorem kp_said:Rows.TopKeptSaid:=
 OpenClaim.holds_of_cond 5 Tryz.f5 rfl rfl rfl rfl rfl rfl rfl ⟨rfl,rfl,rfl,rfl,rfl⟩ rfl rfl rfl rfl rfl kp_fn Tryz.func5 kp_closed kp_inst kp_wrap
  (fun os started H enc _ F=>by rw[OpenClaim.pre_eq_preRow];exact kp_lifted os started H enc F)
theorem kp_plain (f:FuncId) (fn:Func) (hf:Tryz.pinned.checked.prog.funcNamed "burgage/burgagetop.TopKept" = some f) (hfn:Tryz.pinned.checked.prog.funcs[f]? = some fn) :
  true=Tryz.pinned.checked.prog.looks [] /\ ∀ (j:Nat) t,fn.params[j]? = some t->Tryz.pinned.checked.prog.wantsStandIn t=false:=by
 obtain rfl:f=5:=Option.some.inj ((show Tryz.prog.funcNamed "burgage/burgagetop.TopKept" = some 5 by kernel_rfl).symm.trans hf) |>.symm
 obtain rfl:fn=Tryz.f5:=(Option.some.inj (Tryz.func5.symm.trans hfn)).symm
 refine⟨by kernel_rfl,fun j t ht=>?_⟩
 rw[Tryz.params5] at ht
 have ht':t=3 \/ t=22:=by
  have:=Array.mem_of_getElem? ht
  simpa using this
 rcases ht' with rfl|rfl
 ·exact (show Tryz.prog.wantsStandIn 3=false by kernel_rfl)
 ·exact (show Tryz.prog.wantsStandIn 22=false by kernel_rfl)
theorem topKept_card:Rows.TopKeptCardSaid:=
 Claim7.holds_tied_plain_at .later [] _ _ _ _ kp_said (fun _ h=>by cases h) kp_wfby (fun _ h=>by cases h) topKept_row_tie rfl ⟨rfl,rfl⟩ (by kernel_rfl) rfl kp_plain kp_goes
#print axioms topKept_card
end Go.Proofs.YtmghmpclmphccaaGreatDoor

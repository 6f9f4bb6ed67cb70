/- For every list of steps the law TopGrants returns true, and its argument reads as it did; listed, and tied to the text: the tables of math/bits and internal/strconv. -/
import Derived.Test.YtmghmpclmphccaaGreatDoorCards
import Derived.Test.YtmghmpclmphccaaGreatDoorTie
import Derived.Test.YtmghmpclmphccaaGreatDoorGCvOpen
import Derived.Test.YtmghmpclmphccaaGreatDoorGGrFactsA
import Derived.Test.YtmghmpclmphccaaGreatDoorGGrFactsB
import Derived.Test.YtmghmpclmphccaaGreatDoorGGrFactsC
import Derived.Test.YtmghmpclmphccaaGreatDoorGDcL
import Derived.Test.YtmghmpclmphccaaGreatDoorGGrArmC
import Derived.Deep.DeepHandedRow
import Derived.Lib.SmallJoins
set_option maxRecDepth 100000
namespace Go.Proofs.YtmghmpclmphccaaGreatDoor
open Go.ChangeShapes Go.WideShapes Go.ChangeAt Go.RowKit Go.Joins
theorem aeb:ownKnob Tryz.prog.godebug=none:=by kernel_rfl
def Xn:Array Value:=#[.int .u64 1,.int .u64 10,.int .u64 100,.int .u64 1000,.int .u64 10000,.int .u64 100000,.int .u64 1000000,.int .u64 10000000,.int .u64 100000000,.int .u64 1000000000,.int .u64 10000000000,.int .u64 100000000000,.int .u64 1000000000000,.int .u64 10000000000000,.int .u64 100000000000000,.int .u64 1000000000000000,.int .u64 10000000000000000,.int .u64 100000000000000000,.int .u64 1000000000000000000,.int .u64 10000000000000000000]
theorem acD {W:World}(h:laidMetH Tryz.prog Rows.topGrantsRow.laid W):Sa.Tab W:=by
 have h':laidMet Tryz.prog [("math/bits.deBruijn32tab",Rows.laid_math_bits_deBruijn32tab),("math/bits.deBruijn64tab",Rows.laid_math_bits_deBruijn64tab),("internal/strconv.uint64pow10",Rows.laid_internal_strconv_uint64pow10)] W:=h
 obtain⟨ps,⟨_,_,_,_,_,_,_,_,_,_,h2,_⟩,_⟩:=h'
 exact Sa.Qd h2
theorem EM:Tryz.prog.globals.size=4:=by kernel_rfl
theorem aa3 {W:World}(h:W.ShapedOpen Tryz.prog):Pa.rP W:=
 cell_of_shapedOpen_int (g:=0) (t:=3) (zero:=#[.int .i64 0]) h (by rw[EM];decide) (by kernel_rfl) rfl (by kernel_rfl) (by kernel_rfl) Tryz.underlying3
theorem PE {H:Type}(enc:TypeId×Value->H)(W:World)(base:Nat)(args:Array Value)(ds gs:List (DataW H))(before:List MemPlace)
  (hval:∀(j:Nat) t v,Tryz.f4.params[j]? = some t->args[j]? = some v->Value.okWide Tryz.prog W .any base t v)
  (hW:DataW.Whole enc Tryz.prog Tryz.f4.params.toList Rows.topGrantsSpec.vars false W args.toList ds gs before) (hL:laidMetH Tryz.prog Rows.topGrantsRow.laid W) (hsh:W.ShapedOpen Tryz.prog) :
  Calls Tryz.prog 4 args W fun e W'=>∃v,e=.returned v/\Rows.topGrantsSpec.post enc Tryz.prog Tryz.f4 false true false false W args v W':=by
 have hW':=hW
 obtain⟨p,q,hA,hV,rfl,hfz,hnd⟩:=hW
 rw[Tryz.params4] at hA hval
 obtain⟨v0,d0,rfl,rfl,h0⟩:=trodAll_one hA
 obtain⟨rfl,rfl⟩:=trodVars_none hV
 have hlt0:∀x∈p,x.block<W.heap.size:=fun x hx=>by simpa using hW'.lt x (by simpa using hx)
 obtain⟨pp,cp,l,rfl,hll,hsl,hsx⟩:=Pa.adf (hval 0 22 v0 rfl rfl) h0
 simp only [List.append_nil] at hW'
 refine (Pa.Rx ag1 l pp cp W (by unfold maxLen at hll;omega) hsl hsx ⟨acD hL,aa3 hsh⟩).mono fun e W' ⟨he,hb⟩=>?_
 subst he
 have e1:Rows.topGrantsSpec.fn H ([d0] ++ [])={ results:=[.lit (.bool true)],args:=[d0] }:=by simp[Rows.topGrantsSpec]
 refine⟨_,rfl,_,_,_,[],p,[],by simpa using hW',?_,?_,?_,hb.frame _,fun h=>by cases h⟩
 ·rw[e1];exact trodAll_mk1 (shut_bool Tryz.underlying4 true)
 ·rw[e1];exact trodAll_mk1 (Below.trod Pa.VQ (by kernel_rfl) (of_decide_eq_true (by kernel_rfl)) h0 hb (fun x hx=>hlt0 x hx))
 ·rw[e1];rfl
theorem agk (os:Os):laidMetH Tryz.prog Rows.topGrantsRow.laid (({ World.holding Tryz.prog os ⟨#[],#[],[]⟩ with heap:=((((World.holding Tryz.prog os ⟨#[],#[],[]⟩).heap.modify 2 (Sa.yK Sa.NG)).modify 3 (Sa.yK Sa.L6)).modify 1 (Sa.yK Xn)) }:World).forCall (fun _ _=>0) ⟨#[],#[.slice none 0 0],[]⟩).memory:=
 laidMetH_of_parts (laidMet_of_run' 8 (by kernel_rfl) (by kernel_rfl)) (by kernel_rfl)
theorem ZX (os:Os){H:Type}(enc:TypeId×Value->H):∃places,DataW.whole enc Tryz.prog (({ World.holding Tryz.prog os ⟨#[],#[],[]⟩ with heap:=((((World.holding Tryz.prog os ⟨#[],#[],[]⟩).heap.modify 2 (Sa.yK Sa.NG)).modify 3 (Sa.yK Sa.L6)).modify 1 (Sa.yK Xn)) }:World).forCall (fun _ _=>0) ⟨#[],#[.slice none 0 0],[]⟩).memory Tryz.f4.params.toList Rows.topGrantsSpec.vars false (#[.slice none 0 0]:Array Value).toList 8=some ([.nil],[],places):=
 ⟨[],by kernel_rfl⟩
theorem VI (os:Os)(started:os.Started)(H:Type)(enc:TypeId×Value->H)(F:Stop.Interp) :
  ReturnsInHanded {} Tryz.checked os 4 .any ((OpenSpec.ofChange Rows.topGrantsSpec).preRow enc Tryz.prog Tryz.f4 Rows.topGrantsRow.domain false Rows.topGrantsRow.laid) (((OpenSpec.ofChange Rows.topGrantsSpec).at F).post enc Tryz.prog Tryz.f4 false true false false):=by
 obtain⟨places,hx⟩:=ZX os enc
 refine returnsInHanded_of_row (C:=Tryz.checked) (s:=OpenSpec.ofChange Rows.topGrantsSpec) aeb started (by kernel_rfl) Tryz.func4
  (witness_row_at (enc:=enc) (C:=Tryz.checked) false ({ World.holding Tryz.prog os ⟨#[],#[],[]⟩ with heap:=((((World.holding Tryz.prog os ⟨#[],#[],[]⟩).heap.modify 2 (Sa.yK Sa.NG)).modify 3 (Sa.yK Sa.L6)).modify 1 (Sa.yK Xn)) }:World) #[.slice none 0 0] rfl (by kernel_rfl) (by kernel_rfl) (by kernel_rfl)
   (OpenSpec.preRow_of_cond 8 hx (by kernel_rfl) (fun k hk=>by cases hk) (by kernel_rfl) (agk os))) ?_
 intro W base args ds gs before hval hW _ _ _ hL hsh _
 exact PE enc W base args ds gs before hval hW hL hsh
theorem V6:joinedFacts Tryz.pinned.checked.prog 4 Tryz.f4 (OpenSpec.ofChange Rows.topGrantsSpec).bare Rows.topGrantsRow=true:=by
 unfold joinedFacts
 simp only [Bool.and_eq_true]
 exact⟨⟨⟨⟨⟨⟨⟨⟨⟨⟨⟨⟨⟨⟨⟨⟨⟨⟨⟨⟨⟨⟨⟨⟨⟨⟨⟨⟨⟨⟨⟨ag9,ahu⟩,agW⟩,ahk⟩,ahM⟩,agP⟩,ag5⟩,ahD⟩,agU⟩,aek⟩,agh⟩,afX⟩,afw⟩,agz⟩,afI⟩,afG⟩,agw⟩,afm⟩,afo⟩,aeh⟩,aer⟩,aee⟩,afF⟩,agd⟩,agv⟩,aeK⟩,aei⟩,afN⟩,aez⟩,aep⟩,aef⟩,aec⟩
theorem abf:Rows.TopGrantsSaid:=
 OpenClaim.holds_of_cond 4 Tryz.f4 rfl rfl rfl rfl rfl rfl rfl ⟨rfl,rfl,rfl,rfl,rfl⟩ rfl rfl rfl rfl rfl agV Tryz.func4 V6 abJ acX
  (fun os started H enc _ F=>by rw[OpenClaim.pre_eq_preRow];exact VI os started H enc F)
theorem aao (f:FuncId)(fn:Func)(hf:Tryz.pinned.checked.prog.funcNamed "burgage/burgagetop.TopGrants" = some f)(hfn:Tryz.pinned.checked.prog.funcs[f]? = some fn) :
  true=Tryz.pinned.checked.prog.looks [] /\ ∀(j:Nat) t,fn.params[j]? = some t->Tryz.pinned.checked.prog.wantsStandIn t=false:=by
 obtain rfl:f=4:=Option.some.inj ((show Tryz.prog.funcNamed "burgage/burgagetop.TopGrants" = some 4 by kernel_rfl).symm.trans hf) |>.symm
 obtain rfl:fn=Tryz.f4:=(Option.some.inj (Tryz.func4.symm.trans hfn)).symm
 refine⟨by kernel_rfl,fun j t ht=>?_⟩
 rw[Tryz.params4] at ht
 have ht':t=22:=by
  have:=Array.mem_of_getElem? ht
  simpa using this
 subst ht'
 exact (show Tryz.prog.wantsStandIn 22=false by kernel_rfl)
theorem topGrants_card:Rows.TopGrantsCardSaid:=
 Claim7.holds_tied_plain_at .later [] _ _ _ _ abf (fun _ h=>by cases h) abZ (fun _ h=>by cases h) topGrants_row_tie rfl ⟨rfl,rfl⟩ (by kernel_rfl) rfl aao abw
#print axioms topGrants_card

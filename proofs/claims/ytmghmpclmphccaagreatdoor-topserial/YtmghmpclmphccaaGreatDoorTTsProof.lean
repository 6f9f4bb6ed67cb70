/- For every list of steps the law TopSerial returns true, and its argument reads as it did; listed, and tied to the text: the tables of math/bits and internal/strconv. -/
import Derived.Test.YtmghmpclmphccaaGreatDoorRows
import Derived.Test.YtmghmpclmphccaaGreatDoorCards
import Derived.Test.YtmghmpclmphccaaGreatDoorTie
import Derived.Test.YtmghmpclmphccaaGreatDoorTCvOpen
import Derived.Test.YtmghmpclmphccaaGreatDoorTHtOpen
import Derived.Test.YtmghmpclmphccaaGreatDoorTTsFactsA
import Derived.Test.YtmghmpclmphccaaGreatDoorTTsFactsB
import Derived.Test.YtmghmpclmphccaaGreatDoorTTsFactsC
import Derived.Test.YtmghmpclmphccaaGreatDoorTDcL
import Derived.Test.YtmghmpclmphccaaGreatDoorTTsAlone
import Derived.ProofKit
import Derived.OpenShut
import Derived.LaidLaws
import Derived.LaidHandle
import Derived.Deep.DeepHandedRow
import Derived.JoinedCond
import Derived.Lib.LaidTab
import Derived.Lib.SmallJoins
import Derived.Shelf.Vars
import Derived.SevenTiedAt
set_option maxRecDepth 100000
namespace Go.Proofs.YtmghmpclmphccaaGreatDoor
open Go.ChangeShapes Go.WideShapes Go.ChangeAt Go.RowKit Go.Joins
theorem tz_own:ownKnob Tryz.prog.godebug=none:=by kernel_rfl
def hpPow:Array Value:=#[.int .u64 1,.int .u64 10,.int .u64 100,.int .u64 1000,.int .u64 10000,.int .u64 100000,.int .u64 1000000,.int .u64 10000000,.int .u64 100000000,.int .u64 1000000000,.int .u64 10000000000,.int .u64 100000000000,.int .u64 1000000000000,.int .u64 10000000000000,.int .u64 100000000000000,.int .u64 1000000000000000,.int .u64 10000000000000000,.int .u64 100000000000000000,.int .u64 1000000000000000000,.int .u64 10000000000000000000]
theorem tz_laid {W:World} (h:laidMetH Tryz.prog Rows.topSerialRow.laid W):Sa.Tab W:=by
 have h':laidMet Tryz.prog [("math/bits.deBruijn32tab",Rows.laid_math_bits_deBruijn32tab),("math/bits.deBruijn64tab",Rows.laid_math_bits_deBruijn64tab),("internal/strconv.uint64pow10",Rows.laid_internal_strconv_uint64pow10)] W:=h
 obtain⟨ps,⟨_,_,_,_,_,_,_,_,_,_,h2,_⟩,_⟩:=h'
 exact Sa.tab_of_vars h2
theorem tz_globalsSize:Tryz.prog.globals.size=4:=by kernel_rfl
theorem tz_maxL {W:World} (h:W.ShapedOpen Tryz.prog):Pa.MaxL W:=
 cell_of_shapedOpen_int (g:=0) (t:=3) (zero:=#[.int .i64 0]) h (by rw[tz_globalsSize];decide) (by kernel_rfl) rfl (by kernel_rfl) (by kernel_rfl) Tryz.underlying3
theorem tz_contract {H:Type} (enc:TypeId×Value->H) (W:World) (base:Nat) (args:Array Value) (ds gs:List (DataW H)) (before:List MemPlace)
  (hval:∀ (j:Nat) t v,Tryz.f3.params[j]? = some t->args[j]? = some v->Value.okWide Tryz.prog W .any base t v)
  (hW:DataW.Whole enc Tryz.prog Tryz.f3.params.toList Rows.topSerialSpec.vars false W args.toList ds gs before) (hL:laidMetH Tryz.prog Rows.topSerialRow.laid W) (hsh:W.ShapedOpen Tryz.prog) :
  Calls Tryz.prog 3 args W fun e W'=>∃ v,e=.returned v/\Rows.topSerialSpec.post enc Tryz.prog Tryz.f3 false true false false W args v W':=by
 have hW':=hW
 obtain⟨p,q,hA,hV,rfl,hfz,hnd⟩:=hW
 rw[Tryz.params3] at hA hval
 obtain⟨v0,d0,rfl,rfl,h0⟩:=trodAll_one hA
 obtain⟨rfl,rfl⟩:=trodVars_none hV
 have hlt0:∀ x∈p,x.block<W.heap.size:=fun x hx=>by simpa using hW'.lt x (by simpa using hx)
 obtain⟨pp,cp,l,rfl,hll,hsl,hsx⟩:=Pa.open_hs (hval 0 22 v0 rfl rfl) h0
 simp only [List.append_nil] at hW'
 refine (Pa.law_serial dface l pp cp W (by unfold maxLen at hll;omega) hsl hsx ⟨tz_laid hL,tz_maxL hsh⟩).mono fun e W' ⟨he,hb⟩=>?_
 subst he
 have e1:Rows.topSerialSpec.fn H ([d0] ++ [])={ results:=[.lit (.bool true)],args:=[d0] }:=by simp[Rows.topSerialSpec]
 refine⟨_,rfl,_,_,_,[],p,[],by simpa using hW',?_,?_,?_,hb.frame _,fun h=>by cases h⟩
 ·rw[e1];exact trodAll_mk1 (shut_bool Tryz.underlying4 true)
 ·rw[e1];exact trodAll_mk1 (Below.trod Pa.hlaid_out (by kernel_rfl) (of_decide_eq_true (by kernel_rfl)) h0 hb (fun x hx=>hlt0 x hx))
 ·rw[e1];rfl
theorem tz_met (os:Os):laidMetH Tryz.prog Rows.topSerialRow.laid (({ World.holding Tryz.prog os ⟨#[],#[],[]⟩ with heap:=((((World.holding Tryz.prog os ⟨#[],#[],[]⟩).heap.modify 2 (Sa.layCv Sa.cvTab32)).modify 3 (Sa.layCv Sa.cvTab64)).modify 1 (Sa.layCv hpPow)) }:World).forCall (fun _ _=>0) ⟨#[],#[.slice none 0 0],[]⟩).memory:=
 laidMetH_of_parts (laidMet_of_run' 8 (by kernel_rfl) (by kernel_rfl)) (by kernel_rfl)
theorem tz_reads (os:Os) {H:Type} (enc:TypeId×Value->H):∃ places,DataW.whole enc Tryz.prog (({ World.holding Tryz.prog os ⟨#[],#[],[]⟩ with heap:=((((World.holding Tryz.prog os ⟨#[],#[],[]⟩).heap.modify 2 (Sa.layCv Sa.cvTab32)).modify 3 (Sa.layCv Sa.cvTab64)).modify 1 (Sa.layCv hpPow)) }:World).forCall (fun _ _=>0) ⟨#[],#[.slice none 0 0],[]⟩).memory Tryz.f3.params.toList Rows.topSerialSpec.vars false (#[.slice none 0 0]:Array Value).toList 8=some ([.nil],[],places):=
 ⟨[],by kernel_rfl⟩
theorem tz_lifted (os:Os) (started:os.Started) (H:Type) (enc:TypeId×Value->H) (F:Stop.Interp) :
  ReturnsInHanded {} Tryz.checked os 3 .any ((OpenSpec.ofChange Rows.topSerialSpec).preRow enc Tryz.prog Tryz.f3 Rows.topSerialRow.domain false Rows.topSerialRow.laid) (((OpenSpec.ofChange Rows.topSerialSpec).at F).post enc Tryz.prog Tryz.f3 false true false false):=by
 obtain⟨places,hx⟩:=tz_reads os enc
 refine returnsInHanded_of_row (C:=Tryz.checked) (s:=OpenSpec.ofChange Rows.topSerialSpec) tz_own started (by kernel_rfl) Tryz.func3
  (witness_row_at (enc:=enc) (C:=Tryz.checked) false ({ World.holding Tryz.prog os ⟨#[],#[],[]⟩ with heap:=((((World.holding Tryz.prog os ⟨#[],#[],[]⟩).heap.modify 2 (Sa.layCv Sa.cvTab32)).modify 3 (Sa.layCv Sa.cvTab64)).modify 1 (Sa.layCv hpPow)) }:World) #[.slice none 0 0] rfl (by kernel_rfl) (by kernel_rfl) (by kernel_rfl)
   (OpenSpec.preRow_of_cond 8 hx (by kernel_rfl) (fun k hk=>by cases hk) (by kernel_rfl) (tz_met os))) ?_
 intro W base args ds gs before hval hW _ _ _ hL hsh _
 exact tz_contract enc W base args ds gs before hval hW hL hsh
theorem tz_closed:joinedFacts Tryz.pinned.checked.prog 3 Tryz.f3 (OpenSpec.ofChange Rows.topSerialSpec).bare Rows.topSerialRow=true:=by
 unfold joinedFacts
 simp only [Bool.and_eq_true]
 exact⟨⟨⟨⟨⟨⟨⟨⟨⟨⟨⟨⟨⟨⟨⟨⟨⟨⟨⟨⟨⟨⟨⟨⟨⟨⟨⟨⟨⟨⟨⟨tz_k1,tz_k2⟩,tz_k3⟩,tz_k4⟩,tz_k5⟩,tz_k6⟩,tz_k7⟩,tz_k8⟩,tz_k9⟩,tz_k10⟩,tz_k11⟩,tz_k12⟩,tz_k13⟩,tz_k14⟩,tz_k15⟩,tz_k16⟩,tz_k17⟩,tz_k18⟩,tz_k19⟩,tz_k20⟩,tz_k21⟩,tz_k22⟩,tz_k23⟩,tz_k24⟩,tz_k25⟩,tz_k26⟩,tz_k27⟩,tz_k28⟩,tz_k29⟩,tz_k30⟩,tz_k31⟩,tz_k32⟩
theorem tz_said:Rows.TopSerialSaid:=
 OpenClaim.holds_of_cond 3 Tryz.f3 rfl rfl rfl rfl rfl rfl rfl ⟨rfl,rfl,rfl,rfl,rfl⟩ rfl rfl rfl rfl rfl tz_fn Tryz.func3 tz_closed tz_inst tz_wrap
  (fun os started H enc _ F=>by rw[OpenClaim.pre_eq_preRow];exact tz_lifted os started H enc F)
theorem tz_plain (f:FuncId) (fn:Func) (hf:Tryz.pinned.checked.prog.funcNamed "burgage/burgagetop.TopSerial" = some f) (hfn:Tryz.pinned.checked.prog.funcs[f]? = some fn) :
  true=Tryz.pinned.checked.prog.looks [] /\ ∀ (j:Nat) t,fn.params[j]? = some t->Tryz.pinned.checked.prog.wantsStandIn t=false:=by
 obtain rfl:f=3:=Option.some.inj ((show Tryz.prog.funcNamed "burgage/burgagetop.TopSerial" = some 3 by kernel_rfl).symm.trans hf) |>.symm
 obtain rfl:fn=Tryz.f3:=(Option.some.inj (Tryz.func3.symm.trans hfn)).symm
 refine⟨by kernel_rfl,fun j t ht=>?_⟩
 rw[Tryz.params3] at ht
 have ht':t=22:=by
  have:=Array.mem_of_getElem? ht
  simpa using this
 subst ht'
 exact (show Tryz.prog.wantsStandIn 22=false by kernel_rfl)
theorem topSerial_card:Rows.TopSerialCardSaid:=
 Claim7.holds_tied_plain_at .later [] _ _ _ _ tz_said (fun _ h=>by cases h) tz_wfby (fun _ h=>by cases h) topSerial_row_tie rfl ⟨rfl,rfl⟩ (by kernel_rfl) rfl tz_plain tz_goes
#print axioms topSerial_card
end Go.Proofs.YtmghmpclmphccaaGreatDoor

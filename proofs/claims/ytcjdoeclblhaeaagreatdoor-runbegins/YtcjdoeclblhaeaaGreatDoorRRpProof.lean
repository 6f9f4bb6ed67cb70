/- For every text and every number the law RunBegins returns true, and its arguments read as they did; listed, and tied to the text: the tables of math/bits and internal/strconv, what errors.errorType holds. -/
import Derived.Test.YtcjdoeclblhaeaaGreatDoorRows
import Derived.Test.YtcjdoeclblhaeaaGreatDoorCards
import Derived.Test.YtcjdoeclblhaeaaGreatDoorTie
import Derived.Test.YtcjdoeclblhaeaaGreatDoorRCvOpen
import Derived.Test.YtcjdoeclblhaeaaGreatDoorRRpFactsA
import Derived.Test.YtcjdoeclblhaeaaGreatDoorRRpFactsB
import Derived.Test.YtcjdoeclblhaeaaGreatDoorRRpFactsC
import Derived.Test.YtcjdoeclblhaeaaGreatDoorRDcL
import Derived.Test.YtcjdoeclblhaeaaGreatDoorRRnBd
import Derived.Stop.LaidErr
import Derived.Deep.DeepWitnessRowRef
import Derived.ProofKit
import Derived.OpenShut
import Derived.LaidLaws
import Derived.LaidHandle
import Derived.Deep.DeepHandedRow
import Derived.JoinedCond
import Derived.Lib.LaidTab
import Derived.Lib.SmallJoins
import Derived.Shelf.Vars
import Derived.SevenTiedAt
set_option maxRecDepth 100000
namespace Go.Proofs.YtcjdoeclblhaeaaGreatDoor
open Go.ChangeShapes Go.WideShapes Go.ChangeAt Go.RowKit Go.Joins
theorem rp_own:ownKnob Tryz.prog.godebug=none:=by kernel_rfl
theorem rp_laidOut:laidOutB Tryz.prog=true:=by kernel_rfl
def rpAcc:Array Value:=#[.int .u8 128,.int .u8 191,.int .u8 160,.int .u8 191,.int .u8 128,.int .u8 159,.int .u8 144,.int .u8 191,.int .u8 128,.int .u8 143,.int .u8 0,.int .u8 0,.int .u8 0,.int .u8 0,.int .u8 0,.int .u8 0,.int .u8 0,.int .u8 0,.int .u8 0,.int .u8 0,.int .u8 0,.int .u8 0,.int .u8 0,.int .u8 0,.int .u8 0,.int .u8 0,.int .u8 0,.int .u8 0,.int .u8 0,.int .u8 0,.int .u8 0,.int .u8 0]
def rpFirst:Array Value:=(Go.Pinned.utf8FirstZ.map fun (n:Nat)=>Value.int .u8 (n:Int)).toArray
def hpPow:Array Value:=#[.int .u64 1,.int .u64 10,.int .u64 100,.int .u64 1000,.int .u64 10000,.int .u64 100000,.int .u64 1000000,.int .u64 10000000,.int .u64 100000000,.int .u64 1000000000,.int .u64 10000000000,.int .u64 100000000000,.int .u64 1000000000000,.int .u64 10000000000000,.int .u64 100000000000000,.int .u64 1000000000000000,.int .u64 10000000000000000,.int .u64 100000000000000000,.int .u64 1000000000000000000,.int .u64 10000000000000000000]
theorem rp_etGlobal:Tryz.prog.globalNamed "errors.errorType" = some 1:=by kernel_rfl
theorem rp_rtType:(Tryz.prog.cutTypes.find? (·.1 == "internal/reflectlite.rtype")).map (·.2)=some 125:=by kernel_rfl
theorem rp_errRow:((List.range 454).filter fun t=>Tryz.prog.rowNamed t [101,114,114,111,114])=[26]:=by kernel_rfl
theorem rp_typesSize:Tryz.prog.types.size=454:=by kernel_rfl
theorem rp_handle {W:World} (h:handlesMet Tryz.prog [("errors.errorType",Rows.laid_errors_errorType)] W):ErrType W:=by
 obtain⟨name,u,ty,e1,e2,e3,e4,e5⟩:=h _ (List.mem_singleton.2 rfl)
 have en:name=[101,114,114,111,114]:=(Option.some.inj e1).symm
 subst en
 obtain rfl:=Option.some.inj (rp_rtType.symm.trans e2)
 have hm:ty∈(List.range 454).filter fun t=>Tryz.prog.rowNamed t [101,114,114,111,114]:=List.mem_filter.2 ⟨List.mem_range.2 (by rw[<- rp_typesSize];exact e3),e4⟩
 rw[rp_errRow] at hm
 obtain rfl:=List.mem_singleton.1 hm
 have hh:typeHandle Tryz.prog 26=.pointer (some ⟨9,26,none⟩):=by kernel_rfl
 rw[hh] at e5
 simpa using World.var?_cell rp_etGlobal e5 0
theorem rp_pow10Type:(Tryz.prog.globals[4]?).map (·.type)=some 255:=by kernel_rfl
theorem rp_pow10Cells:Tryz.prog.cellsOf 255=20:=by kernel_rfl
theorem rp_u64Cells:Tryz.prog.cellsOf 191=1:=by kernel_rfl
theorem rp_pow10Datum:(Rows.laid_internal_strconv_uint64pow10:DataW Unit)=Lib.tabData .u64 Lib.pow10Tab:=by kernel_rfl
theorem rp_esGlobal:Tryz.prog.globalNamed "strconv.ErrSyntax" = some 5:=by kernel_rfl
theorem rp_erGlobal:Tryz.prog.globalNamed "strconv.ErrRange" = some 6:=by kernel_rfl
theorem rp_esType:(Tryz.prog.globals[5]?).map (·.type)=some 26:=by kernel_rfl
theorem rp_erType:(Tryz.prog.globals[6]?).map (·.type)=some 26:=by kernel_rfl
theorem rp_cellsE:Tryz.prog.cellsOf 321=1:=by kernel_rfl
theorem rp_cellsS:Tryz.prog.cellsOf 9=1:=by kernel_rfl
theorem rp_star : "*" ++ "errors.errorString" = "*errors.errorString" := by decide
theorem rp_row:∀ u,Tryz.prog.typeName? 3 u=some "*errors.errorString" -> u=319:=fun u h=>
 typeName_ptr_named (nm := "errors.errorString") (by rw[rp_star];kernel_rfl) (by kernel_rfl) (by decide) u (by rw[rp_star];exact h)
theorem rp_laid {W:World} (h:laidMetH Tryz.prog Rows.runBeginsRow.laid W):Sa.Tab W/\Pow10 W/\ErrType W/\Rn.IsEv W 5/\Rn.IsEv W 6:=by
 have h':laidMet Tryz.prog [("math/bits.deBruijn32tab",Rows.laid_math_bits_deBruijn32tab),("math/bits.deBruijn64tab",Rows.laid_math_bits_deBruijn64tab),("internal/strconv.uint64pow10",Rows.laid_internal_strconv_uint64pow10),("unicode/utf8.acceptRanges",Rows.laid_unicode_utf8_acceptRanges),("strconv.ErrRange",Rows.laid_strconv_ErrRange),("strconv.ErrSyntax",Rows.laid_strconv_ErrSyntax),("unicode/utf8.first",Rows.laid_unicode_utf8_first)] W/\handlesMet Tryz.prog [("errors.errorType",Rows.laid_errors_errorType)] W:=h
 obtain⟨h1,h3⟩:=h'
 have hT:Sa.Tab W:=by
  obtain⟨ps,⟨_,_,_,_,_,_,_,_,_,_,h2,_⟩,_⟩:=h1
  exact Sa.tab_of_vars h2
 have h2:=h1.tail.tail
 have hP:Pow10 W:=by
  rw[rp_pow10Datum] at h2
  exact Lib.tabIs_of_head pow10Global rp_pow10Type Tryz.underlying255 Tryz.underlying191 rp_u64Cells rp_pow10Cells h2
 have h4:=h1.tail.tail.tail.tail
 have h5:=h4.tail
 obtain⟨a,s,v,_,_,_⟩:=laid_sentinel h4 rp_erGlobal rp_erType Tryz.underlying26 rp_row Tryz.underlying319 Tryz.underlying321 rfl rfl Tryz.underlying9 rp_cellsE rp_cellsS
 obtain⟨a2,s2,v2,_,_,_⟩:=laid_sentinel h5 rp_esGlobal rp_esType Tryz.underlying26 rp_row Tryz.underlying319 Tryz.underlying321 rfl rfl Tryz.underlying9 rp_cellsE rp_cellsS
 exact⟨hT,hP,rp_handle h3,⟨_,by simpa using World.var?_cell rp_esGlobal v2 0,.inr ⟨_,_,rfl⟩⟩,⟨_,by simpa using World.var?_cell rp_erGlobal v 0,.inr ⟨_,_,rfl⟩⟩⟩
theorem rp_globalsSize:Tryz.prog.globals.size=9:=by kernel_rfl
theorem rp_maxL {W:World} (h:W.ShapedOpen Tryz.prog):Pa.MaxL W:=
 cell_of_shapedOpen_int (g:=0) (t:=3) (zero:=#[.int .i64 0]) h (by rw[rp_globalsSize];decide) (by kernel_rfl) rfl (by kernel_rfl) (by kernel_rfl) Tryz.underlying3
theorem rp_rv {W:World} (h:laidMetH Tryz.prog Rows.runBeginsRow.laid W) (hsh:W.ShapedOpen Tryz.prog):Rn.Rv W:=by
 obtain⟨h1,h2,h3,h4,h5⟩:=rp_laid h
 exact⟨⟨h1,rp_maxL hsh⟩,h2,h3,h4,h5⟩
theorem rp_contract {H:Type} (enc:TypeId×Value->H) (W:World) (base:Nat) (args:Array Value) (ds gs:List (DataW H)) (before:List MemPlace)
  (hval:∀ (j:Nat) t v,Tryz.f3.params[j]? = some t->args[j]? = some v->Value.okWide Tryz.prog W .any base t v)
  (hW:DataW.Whole enc Tryz.prog Tryz.f3.params.toList Rows.runBeginsSpec.vars false W args.toList ds gs before) (hL:laidMetH Tryz.prog Rows.runBeginsRow.laid W) (hsh:W.ShapedOpen Tryz.prog) :
  Calls Tryz.prog 3 args W fun e W'=>∃ v,e=.returned v/\Rows.runBeginsSpec.post enc Tryz.prog Tryz.f3 false true false false W args v W':=by
 have hW':=hW
 obtain⟨p,q,hA,hV,rfl,hfz,hnd⟩:=hW
 rw[Tryz.params3] at hA hval
 obtain⟨v0,v1,d0,d1,p0,p1,rfl,rfl,rfl,h0,h1⟩:=trodAll_two hA
 obtain⟨rfl,rfl⟩:=trodVars_none hV
 have hlt0:∀ x∈p0,x.block<W.heap.size:=fun x hx=>by simpa using hW'.lt x (by simpa using .inl hx)
 have hlt1:∀ x∈p1,x.block<W.heap.size:=fun x hx=>by simpa using hW'.lt x (by simpa using .inr hx)
 obtain⟨s,rfl⟩:=okWide_string Tryz.underlying9 (hval 0 9 v0 rfl rfl)
 obtain⟨n,rfl⟩:=okWide_int Tryz.underlying3 (hval 1 3 v1 rfl rfl)
 have hn:n<=9223372036854775807:=by
  have h:=hval 1 3 (.int .i64 n) rfl rfl
  simp[Value.okWide,Tryz.underlying3,Cell.okWide,Cell.ok,IntKind.has,show IntKind.i64.max=9223372036854775807 from rfl,show IntKind.i64.min = -9223372036854775808 from rfl] at h
  omega
 simp only [List.append_nil] at hW'
 refine (Rn.law_begins dface s n W (rp_rv hL hsh) hn).mono fun e W' ⟨he,hb⟩=>?_
 subst he
 have e1:Rows.runBeginsSpec.fn H ([d0,d1] ++ [])={ results:=[.lit (.bool true)],args:=[d0,d1] }:=by simp[Rows.runBeginsSpec]
 refine⟨_,rfl,_,_,_,[],p0++p1,[],by simpa using hW',?_,?_,?_,hb.frame _,fun h=>by cases h⟩
 ·rw[e1];exact trodAll_mk1 (shut_bool Tryz.underlying4 true)
 ·rw[e1];exact trodAll_mk2 (Below.trod rp_laidOut (by kernel_rfl) (of_decide_eq_true (by kernel_rfl)) h0 hb (fun x hx=>hlt0 x hx)) (Below.trod rp_laidOut (by kernel_rfl) (of_decide_eq_true (by kernel_rfl)) h1 hb (fun x hx=>hlt1 x hx))
 ·rw[e1];rfl
theorem rp_met (os:Os):laidMetH Tryz.prog Rows.runBeginsRow.laid (({ (World.holding Tryz.prog os ⟨#[.cells #[.string ⟨#[118,97,108,117,101,32,111,117,116,32,111,102,32,114,97,110,103,101]⟩] 321 (0,0),.cells #[.string ⟨#[105,110,118,97,108,105,100,32,115,121,110,116,97,120]⟩] 321 (0,0)],#[],[]⟩) with heap:=(((((((((World.holding Tryz.prog os ⟨#[.cells #[.string ⟨#[118,97,108,117,101,32,111,117,116,32,111,102,32,114,97,110,103,101]⟩] 321 (0,0),.cells #[.string ⟨#[105,110,118,97,108,105,100,32,115,121,110,116,97,120]⟩] 321 (0,0)],#[],[]⟩).heap.modify 7 (Sa.layCv Sa.cvTab32)).modify 8 (Sa.layCv Sa.cvTab64)).modify 4 (Sa.layCv hpPow)).modify 3 (Sa.layCv rpAcc)).modify 2 (Sa.layCv rpFirst)).modify 1 (Sa.layCv #[.iface 125 (.agg #[.pointer (some ⟨9,26,none⟩)])])).modify 6 (Sa.layCv #[.iface 319 (.pointer (some ⟨14,0,none⟩))])).modify 5 (Sa.layCv #[.iface 319 (.pointer (some ⟨15,0,none⟩))])) }:World).forCall (fun _ _=>0) ⟨#[],#[.string ⟨#[]⟩,.int .i64 0],[]⟩).memory:=
 laidMetH_of_parts3 (fuel:=8) (laidMet_of_run' 8 (by kernel_rfl) (by kernel_rfl)) (by kernel_rfl) (by kernel_rfl)
theorem rp_reads (os:Os) {H:Type} (enc:TypeId×Value->H):∃ places,DataW.whole enc Tryz.prog (({ (World.holding Tryz.prog os ⟨#[.cells #[.string ⟨#[118,97,108,117,101,32,111,117,116,32,111,102,32,114,97,110,103,101]⟩] 321 (0,0),.cells #[.string ⟨#[105,110,118,97,108,105,100,32,115,121,110,116,97,120]⟩] 321 (0,0)],#[],[]⟩) with heap:=(((((((((World.holding Tryz.prog os ⟨#[.cells #[.string ⟨#[118,97,108,117,101,32,111,117,116,32,111,102,32,114,97,110,103,101]⟩] 321 (0,0),.cells #[.string ⟨#[105,110,118,97,108,105,100,32,115,121,110,116,97,120]⟩] 321 (0,0)],#[],[]⟩).heap.modify 7 (Sa.layCv Sa.cvTab32)).modify 8 (Sa.layCv Sa.cvTab64)).modify 4 (Sa.layCv hpPow)).modify 3 (Sa.layCv rpAcc)).modify 2 (Sa.layCv rpFirst)).modify 1 (Sa.layCv #[.iface 125 (.agg #[.pointer (some ⟨9,26,none⟩)])])).modify 6 (Sa.layCv #[.iface 319 (.pointer (some ⟨14,0,none⟩))])).modify 5 (Sa.layCv #[.iface 319 (.pointer (some ⟨15,0,none⟩))])) }:World).forCall (fun _ _=>0) ⟨#[],#[.string ⟨#[]⟩,.int .i64 0],[]⟩).memory Tryz.f3.params.toList Rows.runBeginsSpec.vars false (#[.string ⟨#[]⟩,.int .i64 0]:Array Value).toList 8=some ([.lit (.string []),.lit (.int .i64 0)],[],places):=
 ⟨[],by kernel_rfl⟩
theorem rp_lifted (os:Os) (started:os.Started) (H:Type) (enc:TypeId×Value->H) (F:Stop.Interp) :
  ReturnsInHanded {} Tryz.checked os 3 .any ((OpenSpec.ofChange Rows.runBeginsSpec).preRow enc Tryz.prog Tryz.f3 Rows.runBeginsRow.domain false Rows.runBeginsRow.laid) (((OpenSpec.ofChange Rows.runBeginsSpec).at F).post enc Tryz.prog Tryz.f3 false true false false):=by
 obtain⟨places,hx⟩:=rp_reads os enc
 refine returnsInHanded_of_row (C:=Tryz.checked) (s:=OpenSpec.ofChange Rows.runBeginsSpec) rp_own started (by kernel_rfl) Tryz.func3
  (witness_row_atRef (enc:=enc) (C:=Tryz.checked) false ({ (World.holding Tryz.prog os ⟨#[.cells #[.string ⟨#[118,97,108,117,101,32,111,117,116,32,111,102,32,114,97,110,103,101]⟩] 321 (0,0),.cells #[.string ⟨#[105,110,118,97,108,105,100,32,115,121,110,116,97,120]⟩] 321 (0,0)],#[],[]⟩) with heap:=(((((((((World.holding Tryz.prog os ⟨#[.cells #[.string ⟨#[118,97,108,117,101,32,111,117,116,32,111,102,32,114,97,110,103,101]⟩] 321 (0,0),.cells #[.string ⟨#[105,110,118,97,108,105,100,32,115,121,110,116,97,120]⟩] 321 (0,0)],#[],[]⟩).heap.modify 7 (Sa.layCv Sa.cvTab32)).modify 8 (Sa.layCv Sa.cvTab64)).modify 4 (Sa.layCv hpPow)).modify 3 (Sa.layCv rpAcc)).modify 2 (Sa.layCv rpFirst)).modify 1 (Sa.layCv #[.iface 125 (.agg #[.pointer (some ⟨9,26,none⟩)])])).modify 6 (Sa.layCv #[.iface 319 (.pointer (some ⟨14,0,none⟩))])).modify 5 (Sa.layCv #[.iface 319 (.pointer (some ⟨15,0,none⟩))])) }:World) #[.string ⟨#[]⟩,.int .i64 0] rfl (by kernel_rfl) (by kernel_rfl) (by kernel_rfl)
   (OpenSpec.preRow_of_cond 8 hx (by kernel_rfl) (fun k hk=>by cases hk) (by kernel_rfl) (rp_met os))) ?_
 intro W base args ds gs before hval hW _ _ _ hL hsh _
 exact rp_contract enc W base args ds gs before hval hW hL hsh
theorem rp_closed:joinedFacts Tryz.pinned.checked.prog 3 Tryz.f3 (OpenSpec.ofChange Rows.runBeginsSpec).bare Rows.runBeginsRow=true:=by
 unfold joinedFacts
 simp only [Bool.and_eq_true]
 exact⟨⟨⟨⟨⟨⟨⟨⟨⟨⟨⟨⟨⟨⟨⟨⟨⟨⟨⟨⟨⟨⟨⟨⟨⟨⟨⟨⟨⟨⟨⟨rp_k1,rp_k2⟩,rp_k3⟩,rp_k4⟩,rp_k5⟩,rp_k6⟩,rp_k7⟩,rp_k8⟩,rp_k9⟩,rp_k10⟩,rp_k11⟩,rp_k12⟩,rp_k13⟩,rp_k14⟩,rp_k15⟩,rp_k16⟩,rp_k17⟩,rp_k18⟩,rp_k19⟩,rp_k20⟩,rp_k21⟩,rp_k22⟩,rp_k23⟩,rp_k24⟩,rp_k25⟩,rp_k26⟩,rp_k27⟩,rp_k28⟩,rp_k29⟩,rp_k30⟩,rp_k31⟩,rp_k32⟩
theorem rp_said:Rows.RunBeginsSaid:=
 OpenClaim.holds_of_cond 3 Tryz.f3 rfl rfl rfl rfl rfl rfl rfl ⟨rfl,rfl,rfl,rfl,rfl⟩ rfl rfl rfl rfl rfl rp_fn Tryz.func3 rp_closed rp_inst rp_wrap
  (fun os started H enc _ F=>by rw[OpenClaim.pre_eq_preRow];exact rp_lifted os started H enc F)
theorem rp_plain (f:FuncId) (fn:Func) (hf:Tryz.pinned.checked.prog.funcNamed "burgage/burgagelaw3.RunBegins" = some f) (hfn:Tryz.pinned.checked.prog.funcs[f]? = some fn) :
  true=Tryz.pinned.checked.prog.looks [] /\ ∀ (j:Nat) t,fn.params[j]? = some t->Tryz.pinned.checked.prog.wantsStandIn t=false:=by
 obtain rfl:f=3:=Option.some.inj ((show Tryz.prog.funcNamed "burgage/burgagelaw3.RunBegins" = some 3 by kernel_rfl).symm.trans hf) |>.symm
 obtain rfl:fn=Tryz.f3:=(Option.some.inj (Tryz.func3.symm.trans hfn)).symm
 refine⟨by kernel_rfl,fun j t ht=>?_⟩
 rw[Tryz.params3] at ht
 have ht':t=9 \/ t=3:=by
  have:=Array.mem_of_getElem? ht
  simpa using this
 rcases ht' with rfl|rfl
 ·exact (show Tryz.prog.wantsStandIn 9=false by kernel_rfl)
 ·exact (show Tryz.prog.wantsStandIn 3=false by kernel_rfl)
theorem runBegins_card:Rows.RunBeginsCardSaid:=
 Claim7.holds_tied_plain_at .later [] _ _ _ _ rp_said (fun _ h=>by cases h) rp_wfby (fun _ h=>by cases h) runBegins_row_tie rfl ⟨rfl,rfl⟩ (by kernel_rfl) rfl rp_plain rp_goes
#print axioms runBegins_card
end Go.Proofs.YtcjdoeclblhaeaaGreatDoor

/- -/
import Derived.Test.YtcjdoeclblhaeaaGreatDoorRLwC
import Derived.Test.YtcjdoeclblhaeaaGreatDoorRDcIdx
import Derived.Test.YtcjdoeclblhaeaaGreatDoorRCcA
import Derived.Maps.AppendAt
set_option maxHeartbeats 8000000
set_option maxRecDepth 100000
namespace Go.Proofs.YtcjdoeclblhaeaaGreatDoor
open Go.RowKit Go.Shelf Vs
attribute [local go_sem] Oper.semAt_some
def RdE (n0:Nat) (W:World) (vs:List Value) (ls:List (List Chg)):Prop:=∀ (i:Nat) (l:List Chg),ls[i]? = some l -> ∃ q cq,vs[i]? = some (.slice q l.length cq)/\W.ownsRow n0 215 3 (.slice q l.length cq) l.length (chV l)
theorem RdE.kept {n0:Nat} {W W':World} {row:Option Nat} {vs:List Value} {ls:List (List Chg)} (h:RdE n0 W vs ls) (hg:W.grownBy W' row) (hr:∀ r cur,row=some r->W.heap[r]? ≠ some (.cells cur 215 (0,0))):RdE n0 W' vs ls:=by
 intro i l hl
 obtain⟨q,cq,h1,h2⟩:=h i l hl
 refine⟨q,cq,h1,h2.kept hg ?_⟩
 rcases h2.2 with ⟨e,_⟩|⟨g,cap,cur,e,_,hgb,_⟩
 ·rw[e];exact .inl rfl
 ·rw[e]
  exact .inr fun e'=>hr g cur e'.symm hgb
theorem RdE.more {n0:Nat} {W:World} {vs:List Value} {ls:List (List Chg)} {q:Option Addr} {cq:Nat} {l:List Chg} (h:RdE n0 W vs ls) (hlen:vs.length=ls.length) (hl:W.ownsRow n0 215 3 (.slice q l.length cq) l.length (chV l)):RdE n0 W (vs ++ [.slice q l.length cq]) (ls ++ [l]):=by
 intro i m hm
 rw[List.getElem?_append] at hm
 split at hm
 ·obtain⟨q',c',h1,h2⟩:=h i m hm
  exact⟨q',c',by rw[List.getElem?_append,if_pos (by omega)];exact h1,h2⟩
 ·have h0:i - ls.length=0:=by
   have:=(List.getElem?_eq_some_iff.1 hm).1
   simp at this;omega
  rw[h0] at hm
  simp at hm
  subst hm
  exact⟨q,cq,by rw[List.getElem?_append,if_neg (by omega),hlen,h0];rfl,hl⟩
theorem grown_none {W W':World} (h:Below W.heap.size W W'):W.grownBy W' none:=⟨h.os,h.tape,h.output,h.size,fun k hk _=>h.block k hk⟩
theorem row_type {W:World} {n0 e size n r t:Nat} {v:Value} {xs:List Value} {cur:Array Value} (h:W.ownsRow n0 e size v n xs) (hr:v.ownBlock=some r) (hc:W.heap[r]? = some (.cells cur t (0,0))):t=e:=by
 rcases h.2 with ⟨rfl,_⟩|⟨g,cap,cur',rfl,_,hg,_⟩
 ·cases hr
 ·have:g=r:=Option.some.inj hr
  subst this
  rw[hg] at hc
  cases hc;rfl
def RdI (w W:World) (ls:List (List Chg)):Prop:=∃ v vs,Boxed W w.heap.size 180 v/\W.ownsRow w.heap.size 176 1 v ls.length vs/\RdE w.heap.size W vs ls
theorem rdI_own {b:List UInt8} (w:World):Own (fun (pre:List (Pc b)) W=>RdI w W (pqs pre)):=by
 rintro pre X Y row ⟨v,vs,h1,h2,h3⟩ hg hr
 refine⟨v,vs,boxed_own _ _ (fun (_:Unit)=>_) () X Y row h1 hg hr,?_,h3.kept hg (fun r cur e e'=>?_)⟩
 ·refine h2.kept hg ?_
  rcases h2.2 with ⟨rfl,_⟩|⟨g,cap,cur,rfl,_,hgb,_⟩
  ·exact .inl rfl
  ·refine .inr fun e'=>?_
   obtain⟨o,ho,hc⟩:=hr g (by simpa [Value.ownBlock] using e'.symm)
   rw[hgb] at ho;cases ho;cases hc
 ·obtain⟨o,ho,hc⟩:=hr r e
  rw[e'] at ho;cases ho;cases hc
theorem rdE_at {n0:Nat} {W:World} {p:Option Addr} {c:Nat} {vs:List Value} {ls:List (List Chg)} (h1:W.ownsRow n0 176 1 (.slice p ls.length c) ls.length vs) (h2:RdE n0 W vs ls):LsAt W (fun j=>n0<=j) p ls:=by
 intro hl
 rcases h1.2 with ⟨h3,h4⟩|⟨g,c',cur,h3,hb,hg,_⟩
 ·omega
 ·cases h3
  refine⟨g,0,rfl,(Array.getElem?_eq_some_iff.1 hg).1,hb,fun i l hx=>?_⟩
  obtain⟨q,cq,h5,h6⟩:=h2 i l hx
  have hi:=(List.getElem?_eq_some_iff.1 hx).1
  obtain⟨_,_,e,h7,h8,_⟩:=lw_form h6
  cases e
  refine⟨_,by rw[Nat.zero_add,h1.cellAt i (by omega)];exact h5,q,cq,rfl,h7,h8,fun hp=>?_⟩
  obtain⟨b,off,e1,e2,e3⟩:=(chAt_own h6).2 hp
  subst e1
  exact⟨b,off,rfl,e2,(h6.lt b rfl).1,e3⟩
theorem rdG_enc {l:List Chg} (h:chF l=0):rdG (encL l)=some (l,[]):=by
 have h1:=dec_enc h []
 rw[List.append_nil,if_pos rfl,dec_rdG] at h1
 split at h1
 ·rename_i e
  rw[e,Option.some.inj h1]
 ·cases h1
theorem pc_by {w:World} {bb off:Nat} {b:List UInt8} (hC:ByC w bb off b) (hlt:bb<w.heap.size) (x:Pc b):ByAt w (some ⟨bb,off+x.1.1+2,none⟩) (encL x.1.2):=by
 obtain⟨⟨o,l⟩,hl,a,c,e,ha⟩:=x
 intro _
 refine⟨bb,off+o+2,rfl,hlt,fun i y hy=>?_⟩
 have hy:(encL l)[i]? = some y:=hy
 have ha:a.length=o:=ha
 have hi:=(List.getElem?_eq_some_iff.1 hy).1
 have e:b=a++(fr l++c):=e
 have:=hC (o+2+i) y (by
  rw[e,List.getElem?_append,if_neg (by omega),show o+2+i - a.length=i+2 from by omega,List.getElem?_append,if_pos (by rw[fr_len];omega)]
  exact hy)
 rw[show off+o+2+i=off+(o+2+i) from by omega]
 exact this
theorem pc_cap {b:List UInt8} (x:Pc b):x.1.1+2+(encL x.1.2).length<=b.length:=by
 obtain⟨_,a,c,e,ha⟩:=x.2
 have:=congrArg List.length e
 rw[List.length_append,List.length_append,fr_len] at this
 omega
theorem lgRead {w:World} {F:Nat->Prop} {B:Nat} {g:Lg} (h:LT w F B g) (ok:OkL g) :
  Calls Tryz.prog 108 #[.pointer (some ⟨B,0,none⟩)] w fun e w'=>∃ (q:Option Addr) (c:Nat),e=.returned (.slice q g.ls.length c)/\LsAt w' (fun j=>w.heap.size<=j) q g.ls/\Below w.heap.size w w':=by
 obtain⟨v,wh,hw,hx⟩:=h
 obtain⟨p3,c3,rfl,hc3,hc3',hp3⟩:=lw_form hx.row
 have hfw:=ok.few
 obtain⟨bb,off,hbb,hq,hC⟩:∃ bb off,bb<w.heap.size/\(0<g.by.length->p3=some ⟨bb,off,none⟩)/\ByC w bb off g.by:=by
  by_cases h0:0<g.by.length
  ·obtain⟨g0,rfl⟩:=hp3 h0
   have:=lw_byC hx.row g.by.length
   rw[List.take_length] at this
   exact⟨g0,0,(lw_lt hx.row rfl).2,fun _=>rfl,this⟩
  ·have e:g.by=[]:=List.eq_nil_of_length_eq_zero (by omega)
   refine⟨B,0,hx.lt,fun h=>absurd h h0,fun i x hi=>?_⟩
   rw[e] at hi;simp at hi
 have hby1:=hfw.2.1
 have hls:=hfw.1
 have d3:=hx.c3
 have hbyE:Hid (g.by=frs g.ls++g.tl):=rfl
 have hBl:=hx.lt
 have heach:=ok.each
 have hinc:=ok.inc
 clear hfw hp3 hx hw ok
 generalize g.by=b at *
 refine (callsIn_wide (n:=9)).1 ?_
 refine callsIn_of_wp_marks Tryz.func108 rfl trivial ?_ rfl
 simp only [Tryz.ntmps108,List.size_toArray,List.length_cons,List.length_nil,Nat.reduceAdd,Nat.reduceSub,Array.replicate_succ,Array.replicate_zero,List.push_toArray,List.append_toArray,List.nil_append,List.cons_append]
 gi_wp2_with (refine⟨trivial,?_⟩;gi_at_call 151;refine (callsIn_wide.2 (wholes _ _ _ _)).mono ?_;rintro e w' ⟨rfl,rfl⟩)
 have hs:=Boxed.new w 180 (.slice none 0 0)
 have hb':=Boxed.new (w.alloc (.cells #[.slice none 0 0] 180)) 30 (.slice p3 b.length c3)
 rw[World.size_alloc] at hb'
 have hB0:Below w.heap.size w ((w.alloc (.cells #[.slice none 0 0] 180)).alloc (.cells #[.slice p3 b.length c3] 30)):=((Below.refl _ w).alloc (Nat.le_refl _) _).alloc (by simp) _
 refine wpIn_rangeFunc_ownF rfl (by decide) (gf:=194) (lb:=#[.pointer (some ⟨w.heap.size+1,0,none⟩)]) rfl trivial (enters_of Tryz.func194 (by kernel_rfl) rfl)
  (wholes_seq 8 (w.heap.size+1) w.heap.size bb off c3 p3 b g.tl g.ls hbyE hinc heach hq hbb hc3 hc3' hby1 _ (by simp;omega) hb'.cell (hC.step hbb hB0)) belowK_t (belowK_b (by simp;omega)) (Below.refl _ _) (fun _=>rfl)
  (fun pre W=>RdI w W (pqs pre)/\Below w.heap.size w W)
  (fun _ _ _=>False)
  (OwnFrom.and (Own.from (rdI_own w) _) (ownFrom_below (Nat.le_refl _) (by simp;omega)))
  (fun _ _ _ _ _ hs _ _=>hs)
  ⟨⟨_,[],hs.alloc _,World.ownsRow_nil _ _ _ _,fun i l h=>by simp[pqs] at h⟩,hB0⟩
  (fun x=>{ tmps:=#[.pointer (some ⟨B,0,none⟩),undef,.slice none 0 0,.pointer (some ⟨w.heap.size,0,none⟩),.slice (some ⟨bb,off+x.1.1+2,none⟩) (encL x.1.2).length (c3 - x.1.1 - 2),undef,undef,.pointer (some ⟨B,0,none⟩),.pointer (some ⟨B,0,none⟩),.pointer (some ⟨B,3,none⟩),.slice p3 b.length c3,.func (.func 194) #[] #[.pointer (some ⟨w.heap.size+1,0,none⟩)],.slice (some ⟨bb,off+x.1.1+2,none⟩) (encL x.1.2).length (c3 - x.1.1 - 2),undef,undef,undef,undef,undef,undef,undef,undef,undef,undef],defers:=[] }) ?assign ?body ?done ?stop
 case assign=>
  intro l x W K hK
  simp only [encW]
  gi_wp2
  exact hK
 case body=>
  rintro lp pre x W ⟨⟨v,vs,hbx,hrow,hE⟩,hB⟩ hlt
  have hpc:=pc_cap x
  have K:=decode_ok (encL x.1.2) x.1.2 (some ⟨bb,off+x.1.1+2,none⟩) (c3 - x.1.1 - 2) W (by omega) (pc_by (hC.step hbb hB) (Nat.lt_of_lt_of_le hbb hB.size) x) (rdG_enc x.2.1)
  have hl20:=(chF_ok x.2.1).1
  obtain⟨ls',hls'⟩:∃ ls',Hid (ls'=pqs pre):=⟨_,rfl⟩
  have hls2:Hid (pqs (pre ++ [x])=ls' ++ [x.1.2]):=by show _=_;rw[pqs_app,hls'.out];rfl
  have hle:ls'.length<=33334:=by rw[hls'.out];simp[pqs];omega
  rw[<- hls'.out] at hrow hE
  obtain⟨pv,cv,rfl,-⟩:=lw_form hrow
  have hvl:=hrow.1
  have hszw:=hB.size
  obtain⟨i0,hin,hz0,hz1,hz2⟩:=info_parts infoLs
  generalize hlx:x.1.2=l at K hl20 hls2
  replace hlx:Hid (x.1.2=l):=hlx
  clear hpc hlt hls'
  gi_wp2_with (first
   | (refine⟨trivial,?_⟩;gi_at_call 152;refine (CallsIn.inRound lp (callsIn_wide.2 K)).mono ?_;clear K;rintro e w2 ⟨q,cq,rfl,ho,hb2⟩;have hg2:=grown_none hb2;have hbx2:=hbx.kept hg2 (by simp);have hrow2:=hrow.kept hg2 (by simp[Value.ownBlock];cases pv <;> simp);have hE2:=hE.kept hg2 (fun r cur e=>by cases e);have hc2:=hbx2.cell)
   | (gi_at_builtin;refine wpListIn_append_own _ rfl _ _ 180 rfl w.heap.size 176 i0 (.slice none 0 0) 1 24 Tryz.underlying180 hin hz0 hz1 hz2 rfl (by decide) _ _ _ rfl (hrow2.alloc _) ⟨w2.heap.size,0,none⟩ 1 1 [.slice q l.length cq] rfl rfl (cell_one_new _ _ _) (by simp[Value.oneCell']) (by unfold maxLen;omega) (by omega) (by have:=hb2.size;simp;omega) ?_;intro v' w1' hown' hgrow _;obtain⟨g',cap',rfl⟩:=ownsRow_succ hown';obtain⟨hv1,hv2,hr2,hk2,hb3⟩:=hbx2.appended (by decide) hrow2 (by have:=hb2.size;omega) (Nat.le_refl _) hown' hgrow;have hc1:=hv1.cell;have hf1:=hv1.frozen))
  have hE3:=hE2.more (by omega) (ownMono hszw ho)
  have hE4:=hE3.kept (World.grownBy_alloc w2 (.cells #[.slice q l.length cq] 176) none) (fun r cur e=>by cases e)
  have hE5:=hE4.kept hgrow (fun r cur e e'=>by have:=row_type (hrow2.alloc _) e e';cases this)
  have hE6:=hE5.kept (grownBy_setCell' w1' w.heap.size (.slice (some ⟨g',0,none⟩) (ls'.length+1) cap')) (fun r cur e e'=>by cases e;rw[show w1'.heap[w.heap.size]? = _ from hv1] at e';simp at e')
  refine⟨(show KeepsOthers W w2 from ⟨hb2.size,fun k o hk _=>(hb2.block k (Array.getElem?_eq_some_iff.1 hk).1).trans hk⟩).trans hk2,(hb2.mono hszw).trans hb3,?_,hB.trans ((hb2.mono hszw).trans hb3)⟩
  rw[hls2.out]
  exact⟨_,_,hv2,by rw[List.length_append];exact hr2,hE6⟩
 case done=>
  rintro D ys W hD hys ⟨⟨v,vs,hbx,hrow,hE⟩,hB⟩ hK
  rw[hys] at hrow hE
  obtain⟨pv,cv,rfl,-⟩:=lw_form hrow
  have hc:=hbx.cell
  gi_wp2
  refine⟨by simp,.inl ⟨_,_,rfl,run_takeDeferred hK,?_⟩⟩
  exact⟨_,results_tmp rfl _ _ _,pv,cv,rfl,rdE_at (ownsRow_putObj hrow _ hK rfl) (hE.kept (grownBy_putObj' W D _) (fun r cur e e'=>by cases e;rw[hK] at e';cases e')),hB.trans (belowK_b (w:=w) (Nat.le_refl _) W D _ _ (by simp at hD;omega) hK rfl rfl)⟩
 case stop=>
  rintro D c pre W _ _ h _
  exact h.elim
end Go.Proofs.YtcjdoeclblhaeaaGreatDoor
namespace Go.Proofs.YtcjdoeclblhaeaaGreatDoor
open Go.RowKit Vs
theorem lface:LFace LT where
 but:=fun⟨v,wh,hw,hx⟩ hb hE=>⟨v,wh,hw,hx.but hb hE⟩
 newOk:=fun w _ h0 h1=>newOk w h0 h1
 newNo:=fun w _ h=>newNo w h
 append:=fun l p c h ok _ hl hc hp=>lgAppend l p c h ok hl hc hp.at
 sync:=fun h ok _=>lgSync h ok
 fail:=fun n h0 h1 h _ _=>lgFail n h0 h1 h
 crash:=fun n h0 h1 h ok _=>lgCrash n h0 h1 h ok
 read:=fun h ok=>(lgRead h ok).mono (fun _ _ ⟨q,c,h1,h2,h3⟩=>⟨q,c,h1,h2.mono (fun _ _ _=>trivial),h3⟩)
end Go.Proofs.YtcjdoeclblhaeaaGreatDoor

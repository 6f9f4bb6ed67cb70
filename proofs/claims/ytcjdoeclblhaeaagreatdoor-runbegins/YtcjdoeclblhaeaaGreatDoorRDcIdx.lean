/- -/
import Derived.Test.YtcjdoeclblhaeaaGreatDoorRVsBase
import Derived.Shelf.Abstract
import Derived.Test.YtcjdoeclblhaeaaGreatDoorRLgOwn
import Derived.Test.YtcjdoeclblhaeaaGreatDoorRCcB
import Derived.Deep.RegionLaw
set_option maxHeartbeats 4000000
set_option maxRecDepth 100000
namespace Go.Proofs.YtcjdoeclblhaeaaGreatDoor
open Go.RowKit Vs
def idxP (P:Pr->Bool):Int->List Pr->Int
 | _,[] => -1
 | k,s :: r=>if P s=true then k else idxP P (k+1) r
theorem idxP_any (P:Pr->Bool):∀ (l:List Pr) (k:Int),0<=k->decide (0<=idxP P k l)=l.any P
 | [],k,_=>by simp[idxP]
 | s :: r,k,hk=>by
  rw[idxP,List.any_cons]
  cases h:P s with
  | true=>simp[hk]
  | false=>simp only [Bool.false_eq_true,if_false,Bool.false_or];exact idxP_any P r (k+1) (by omega)
theorem idxP_at (P:Pr->Bool):∀ (l:List Pr) (k:Int),(idxP P k l = -1 /\ ∀ x∈l,P x=false) \/ ∃ (i:Nat) (x:Pr),idxP P k l=k+i/\l[i]? = some x/\P x=true /\ ∀ y∈l.take i,P y=false
 | [],k=>.inl ⟨rfl,fun x h=>by simp at h⟩
 | s :: r,k=>by
  rw[idxP]
  cases h:P s with
  | true=>exact .inr ⟨0,s,by simp,rfl,h,fun y hy=>by simp at hy⟩
  | false=>
   rw[if_neg (by simp)]
   rcases idxP_at P r (k+1) with ⟨h1,h2⟩|⟨i,x,h1,h2,h3,h4⟩
   ·exact .inl ⟨h1,fun x hx=>by
     rcases List.mem_cons.1 hx with rfl|hx
     ·exact h
     ·exact h2 x hx⟩
   ·refine .inr ⟨i+1,x,by rw[h1];omega,by simpa using h2,h3,fun y hy=>?_⟩
    rw[List.take_succ_cons] at hy
    rcases List.mem_cons.1 hy with rfl|hy
    ·exact h
    ·exact h4 y hy
theorem indexSt (g:Nat) (lb:Array Value) (eg:∀ args w,(callFunc g args).run Tryz.prog w=.ok (.enter g args) w) (P:Pr->Bool) (q:Option Addr) (cap:Nat) (l:List Pr) (w:World) (hz:l.length<=1000000) (hq:PrAt w q l)
  (hF:∀ (x:Pr) (w1:World),x∈l->Below w.heap.size w w1->Calls Tryz.prog g (#[.agg #[.string x.1,.string x.2]]++lb) w1 fun e w'=>e=.returned (.bool (P x))/\Below w1.heap.size w1 w') :
  Calls Tryz.prog 187 #[.slice q l.length cap,.func (.func g) #[] lb] w fun e w'=>e=.returned (.int .i64 (idxP P 0 l))/\Below w.heap.size w w':=by
 go_enter Tryz.func187,Tryz.ntmps187
 go_wp2
 go_loopw [8] (fun i wr=>∃ k:Nat,k<=l.length/\i=.int .i64 k/\Hid (idxP P 0 l=idxP P k (l.drop k))/\Below w.heap.size w wr) (fun i _=>l.length - (intOf i).toNat)
 case atStart=>exact⟨0,by omega,rfl,rfl,below_self _⟩
 case round=>
  obtain⟨k,hk,rfl,R,hb⟩:=hrel
  have hsz:=hb.size
  by_cases hlt:k<l.length
  ·have hlt':(k:Int)<(l.length:Int):=by omega
   obtain⟨b,off,rfl,hbl,hc⟩:=hq (by omega)
   obtain⟨x,hx⟩:∃ x,l[k]? = some x:=⟨l[k],List.getElem?_eq_getElem hlt⟩
   have HF:=hF x wr (List.mem_of_getElem? hx) hb
   have c0:wr.cell? ⟨b,off+k*2,none⟩=some (.string x.1):=(hb.cell (p:=⟨b,off+k*2,none⟩) hbl).trans (hc k x hx).1
   have c1:wr.cell? ⟨b,off+k*2+1,none⟩=some (.string x.2):=(hb.cell (p:=⟨b,off+k*2+1,none⟩) hbl).trans (hc k x hx).2
   have hd:Hid (l.drop k=x :: l.drop (k+1)):=by
    show _=_
    obtain⟨h,e⟩:=List.getElem?_eq_some_iff.1 hx
    rw[List.drop_eq_getElem_cons h,e]
   clear hx hc hq hF
   cases hp:P x
   ·have R2:Hid (idxP P 0 l=idxP P ((k+1:Nat):Int) (l.drop (k+1))):=by
     show _=_
     rw[R.out,hd.out,idxP,if_neg (by simp[hp])]
     rfl
    rw[hp] at HF
    clear R hd hp
    go_wp2_with (go_at_fn g;refine HF.mono ?_;rintro e w1 ⟨rfl,hb1⟩;have hb2:=below_via hb hb1;clear hb1)
    exact⟨⟨k+1,by omega,by go_num,R2,hb2⟩,by simp[intOf];omega⟩
   ·have R2:Hid (idxP P 0 l=(k:Int)):=by
     show _=_
     rw[R.out,hd.out,idxP,if_pos hp]
    rw[hp] at HF
    clear R hd hp
    go_wp2_with (go_at_fn g;refine HF.mono ?_;rintro e w1 ⟨rfl,hb1⟩;have hb2:=below_via hb hb1;clear hb1)
    go_ret
    exact⟨by rw[R2.out];rfl,hb2⟩
  ·have R2:Hid (idxP P 0 l = -1):=by
    show _=_
    rw[R.out,List.drop_eq_nil_of_le (by omega)]
    rfl
   clear R hF hq
   go_wp2
   go_ret
   exact⟨by rw[R2.out];rfl,hb⟩
theorem indexPr (g:Nat) (lb:Array Value) (eg:∀ args w,(callFunc g args).run Tryz.prog w=.ok (.enter g args) w) (P:Pr->Bool) (q:Option Addr) (cap:Nat) (l:List Pr) (w:World) (hz:l.length<=1000000) (hq:PrAt w q l)
  (hF:∀ (x:Pr) (w1:World),x∈l->Below w.heap.size w w1->Calls Tryz.prog g (#[.agg #[.string x.1,.string x.2]]++lb) w1 fun e w'=>e=.returned (.bool (P x))/\Below w1.heap.size w1 w') :
  Calls Tryz.prog 306 #[.slice q l.length cap,.func (.func g) #[] lb] w fun e w'=>e=.returned (.int .i64 (idxP P 0 l))/\Below w.heap.size w w':=by
 go_enter Tryz.func306,Tryz.ntmps306
 go_wp2
 go_loopw [8] (fun i wr=>∃ k:Nat,k<=l.length/\i=.int .i64 k/\Hid (idxP P 0 l=idxP P k (l.drop k))/\Below w.heap.size w wr) (fun i _=>l.length - (intOf i).toNat)
 case atStart=>exact⟨0,by omega,rfl,rfl,below_self _⟩
 case round=>
  obtain⟨k,hk,rfl,R,hb⟩:=hrel
  have hsz:=hb.size
  by_cases hlt:k<l.length
  ·have hlt':(k:Int)<(l.length:Int):=by omega
   obtain⟨b,off,rfl,hbl,hc⟩:=hq (by omega)
   obtain⟨x,hx⟩:∃ x,l[k]? = some x:=⟨l[k],List.getElem?_eq_getElem hlt⟩
   have HF:=hF x wr (List.mem_of_getElem? hx) hb
   have c0:wr.cell? ⟨b,off+k*2,none⟩=some (.string x.1):=(hb.cell (p:=⟨b,off+k*2,none⟩) hbl).trans (hc k x hx).1
   have c1:wr.cell? ⟨b,off+k*2+1,none⟩=some (.string x.2):=(hb.cell (p:=⟨b,off+k*2+1,none⟩) hbl).trans (hc k x hx).2
   have hd:Hid (l.drop k=x :: l.drop (k+1)):=by
    show _=_
    obtain⟨h,e⟩:=List.getElem?_eq_some_iff.1 hx
    rw[List.drop_eq_getElem_cons h,e]
   clear hx hc hq hF
   cases hp:P x
   ·have R2:Hid (idxP P 0 l=idxP P ((k+1:Nat):Int) (l.drop (k+1))):=by
     show _=_
     rw[R.out,hd.out,idxP,if_neg (by simp[hp])]
     rfl
    rw[hp] at HF
    clear R hd hp
    go_wp2_with (go_at_fn g;refine HF.mono ?_;rintro e w1 ⟨rfl,hb1⟩;have hb2:=below_via hb hb1;clear hb1)
    exact⟨⟨k+1,by omega,by go_num,R2,hb2⟩,by simp[intOf];omega⟩
   ·have R2:Hid (idxP P 0 l=(k:Int)):=by
     show _=_
     rw[R.out,hd.out,idxP,if_pos hp]
    rw[hp] at HF
    clear R hd hp
    go_wp2_with (go_at_fn g;refine HF.mono ?_;rintro e w1 ⟨rfl,hb1⟩;have hb2:=below_via hb hb1;clear hb1)
    go_ret
    exact⟨by rw[R2.out];rfl,hb2⟩
  ·have R2:Hid (idxP P 0 l = -1):=by
    show _=_
    rw[R.out,List.drop_eq_nil_of_le (by omega)]
    rfl
   clear R hF hq
   go_wp2
   go_ret
   exact⟨by rw[R2.out];rfl,hb⟩
theorem containsSt (g:Nat) (lb:Array Value) (eg:∀ args w,(callFunc g args).run Tryz.prog w=.ok (.enter g args) w) (P:Pr->Bool) (q:Option Addr) (cap:Nat) (l:List Pr) (w:World) (hz:l.length<=1000000) (hq:PrAt w q l)
  (hF:∀ (x:Pr) (w1:World),x∈l->Below w.heap.size w w1->Calls Tryz.prog g (#[.agg #[.string x.1,.string x.2]]++lb) w1 fun e w'=>e=.returned (.bool (P x))/\Below w1.heap.size w1 w') :
  Calls Tryz.prog 141 #[.slice q l.length cap,.func (.func g) #[] lb] w fun e w'=>e=.returned (.bool (l.any P))/\Below w.heap.size w w':=by
 have E:Hid _:=idxP_any P l 0 (by omega)
 have HF:=indexSt g lb eg P q cap l w hz hq hF
 clear hF
 go_enter Tryz.func141,Tryz.ntmps141
 go_wp2_with fail
 refine HF.mono ?_
 rintro e w1 ⟨rfl,hb⟩
 go_wp2
 go_ret
 exact⟨by rw[<- E.out];rfl,hb⟩
end Go.Proofs.YtcjdoeclblhaeaaGreatDoor
namespace Go.Proofs.YtcjdoeclblhaeaaGreatDoor
open Go.RowKit Vs
theorem lw_two (W:World) (n:Nat) (hn:n<=1000):(W.alloc (.cells #[.int .u8 ((n:Int) / 256),.int .u8 ((n:Int) % 256)] 5)).ownsRow W.heap.size 5 1 (.slice (some ⟨W.heap.size,0,none⟩) 2 2) 2 (byV [UInt8.ofNat (n / 256),UInt8.ofNat (n % 256)]):=by
 have e1:((UInt8.ofNat (n / 256)).toNat:Int)=(n:Int) / 256:=by rw[UInt8.toNat_ofNat'];omega
 have e2:((UInt8.ofNat (n % 256)).toNat:Int)=(n:Int) % 256:=by rw[UInt8.toNat_ofNat'];omega
 refine⟨rfl,.inr ⟨W.heap.size,2,_,rfl,Nat.le_refl _,heap_alloc_new W _,Nat.le_refl _,by decide,rfl,?_⟩⟩
 show [Value.int .u8 ((n:Int) / 256),Value.int .u8 ((n:Int) % 256)]=[Value.int .u8 ((UInt8.ofNat (n / 256)).toNat:Int),Value.int .u8 ((UInt8.ofNat (n % 256)).toNat:Int)]
 rw[e1,e2]
theorem lw_one (l:List UInt8):∀ y∈byV l,y.oneCell'=true:=by
 intro y hy
 simp only [byV,List.mem_map] at hy
 obtain⟨x,_,rfl⟩:=hy
 rfl
theorem headed (bs:List UInt8) (n0:Nat) (v:Value) (w:World) (hown:w.ownsRow n0 5 1 v bs.length (byV bs)) (hl:bs.length<=1000) :
  Calls Tryz.prog 147 #[v] w fun e w'=>∃ v',e=.returned v'/\w'.ownsRow w.heap.size 5 1 v' (2+bs.length) (byV (UInt8.ofNat (bs.length / 256) :: UInt8.ofNat (bs.length % 256) :: bs))/\Below w.heap.size w w':=by
 obtain⟨p,c,rfl,-⟩:=lw_form hown
 go_enter Tryz.func147,Tryz.ntmps147
 go_wp2_with (at_builtin;refine wpList_append_row 30 5 1 1 _ Tryz.underlying30 infoByte rfl (by decide) (by decide) rfl _ _ rfl w.heap.size _ 2 _ rfl (lw_two _ _ hl) (by simp) n0 _ bs.length (byV bs) rfl (hown.alloc _) (lw_one _) (by omega) ?_;intro v7 w3 own7 hg7 hat7)
 go_ret
 exact⟨_,rfl,own7,((below_self w).alloc (Nat.le_refl _) _).grown hg7 (by simp) (fun j hj=>by have hj:some w.heap.size=some j:=hj;cases hj;exact Nat.le_refl _)⟩
theorem lw_turn {V w':World} {row:Option Nat} (hg:V.grownBy w' row):But (fun j=>row=some j) V w':=⟨hg.os,hg.tape,hg.output,hg.size,fun k hk hF=>hg.block k hk (fun e=>hF e.symm)⟩
theorem LX.grow {F:Nat->Prop} {w w5:World} {B:Nat} {down:Bool} {wh room safe:Int} {v u:Value} {bs zs:List UInt8} {m:Nat} (x:LX w F B down wh room safe v bs) (hm:m=zs.length) (own:w5.ownsRow 0 5 1 u (bs.length+m) (byV bs++byV zs)) (hg:w.grownBy w5 v.ownBlock) (hat:u.ownBlock=v.ownBlock \/ u.ownBlock=some w.heap.size) :
  w5.cell? ⟨B,3,none⟩=some v/\w5.frozen? ⟨B,3,none⟩=false/\LX (w5.setCell ⟨B,3,none⟩ u) (Nw F w w5) B down wh room safe u (bs++zs)/\But F w (w5.setCell ⟨B,3,none⟩ u):=by
 have b5:=lw_turn hg
 have hB:¬ v.ownBlock=some B:=fun e=>(x.sep B e).2 rfl
 have own':w5.ownsRow 0 5 1 u (bs++zs).length (byV (bs++zs)):=by rw[byV_app,List.length_append,<- hm];exact own
 have hlt:=x.lt
 have hu:∀ j,u.ownBlock=some j->Nw F w w5 j/\j≠B:=fun j hj=>by
  rcases hat with e|e
  ·exact⟨.inl (x.sep j (e.symm.trans hj)).1,(x.sep j (e.symm.trans hj)).2⟩
  ·have e2:w.heap.size=j:=Option.some.inj (e.symm.trans hj)
   exact⟨.inr ⟨by omega,(lw_lt own hj).2⟩,by omega⟩
 obtain⟨fB,c0,c1,c2,c3,c4,fz,row,sep⟩:=x
 have d0:=(b5.cell (p:=⟨B,0,none⟩) hlt hB).trans c0
 have d1:=(b5.cell (p:=⟨B,1,none⟩) hlt hB).trans c1
 have d2:=(b5.cell (p:=⟨B,2,none⟩) hlt hB).trans c2
 have d3:=(b5.cell (p:=⟨B,3,none⟩) hlt hB).trans c3
 have d4:=(b5.cell (p:=⟨B,4,none⟩) hlt hB).trans c4
 have fy:∀ i,i<5->w5.frozen? ⟨B,i,none⟩=false:=fun i hi=>(b5.frozen (p:=⟨B,i,none⟩) hlt hB).trans (fz i hi)
 have f0:=fy 0 (by decide);have f1:=fy 1 (by decide);have f2:=fy 2 (by decide);have f3:=fy 3 (by decide);have f4:=fy 4 (by decide)
 refine⟨d3,f3,⟨.inl fB,by go_simp,by go_simp,by go_simp,by go_simp,by go_simp,fun i hi=>?_,row_but own' lw_set (fun j hj=>(hu j hj).2),hu⟩,((But.refl F w).then b5 (fun i _ e=>(sep i e).1)).setCell (p:=⟨B,3,none⟩) (.inl fB) _⟩
 match i,hi with
 | 0,_=>go_simp
 | 1,_=>go_simp
 | 2,_=>go_simp
 | 3,_=>go_simp
 | 4,_=>go_simp
theorem lw_append_run {w w':World} {ops:Array Oper} {o:Oper} {a:Act} {K:Act->World->Prop} {Q:Exit->Act->World->Prop} {E:Prop} {v u v':Value} (hgd:o.guard=none) (s x:Operand) (t:TypeId)
  (ho:o.op=.call { callee:=.builtin .append,args:=#[s,x],argTypes:=#[t,t] }) (hs:a.eval s=v) (hx:a.eval x=u) (hr:(Builtin.append_ #[t,t] o.type #[v,u]).run Tryz.prog w=.ok v' w') (hK:K (a.put o.dst v') w') :
  if Region.wanted o (yielded ops a.tmps)=true then Oper.wp Tryz.prog o a w K Q else E:=by
 have hw:Region.wanted o (yielded ops a.tmps)=true:=by simp[Region.wanted,hgd]
 rw[if_pos hw]
 unfold Oper.wp execOp
 simp only [ho,resolve,invoke,builtin,Sem.run_bind,Sem.run_pure,Result.andThen_ok,List.map_toArray,List.map_cons,List.map_nil,hs,hx,hr]
 exact hK
theorem Nw.two {F:Nat->Prop} {a b c d:World} (h1:a.heap.size<=b.heap.size) (h2:c.heap.size<=d.heap.size):∀ j,Nw F b c j->Nw F a d j:=fun j hj=>by
 rcases hj with hj|hj
 ·exact .inl hj
 ·exact .inr ⟨by omega,by omega⟩
theorem lgAppend {w:World} {F:Nat->Prop} {B:Nat} {g:Lg} (l:List Chg) (p:Option Addr) (c:Nat) (h:LT w F B g) (ok:OkL g) (hl:l.length<=c) (hc:c<=9223372036854775807) (hp:ChAt w p l) :
  Calls Tryz.prog 105 #[.pointer (some ⟨B,0,none⟩),.slice p l.length c] w fun e w'=>e=.returned (ev (apF g l))/\LT w' (Nw F w w') B (apG g l)/\But F w w':=by
 obtain⟨v,wh,hw,hx⟩:=h
 obtain⟨p3,c3,rfl,-⟩:=lw_form hx.row
 by_cases h1:chF l=0
 ·have K1:=encode_ok l p c w h1 hp
  have hle:=encL_lt h1
  have hfw:=ok.few.2.1
  by_cases h2:g.room<g.by.length+2+(encL l).length
  ·rw[show apF g l=3 from by rw[apF,if_pos h1,if_pos h2],show apG g l=g from by rw[apG,if_pos h1,if_pos h2]]
   clear h1
   go_enter Tryz.func105,Tryz.ntmps105
   go_wp2_with (first
    | (go_at_call 146;refine K1.mono ?_;clear K1;rintro e w1 ⟨v1,rfl,own1,hb1⟩;obtain⟨p1,c1,rfl,-⟩:=lw_form own1)
    | (go_at_call 147;refine (headed (encL l) _ _ w1 own1 hle).mono ?_;rintro e w2 ⟨v2,rfl,own2,hb2⟩;obtain⟨p2,c2,rfl,-⟩:=lw_form own2;have hb12:=below_via hb1 hb2;have x2:=hx.step hb12;have d2:=x2.c2;have d3:=x2.c3))
   go_quiet (fail)
   go_wp2
   go_ret
   have hbq:=below_drewN hb12 nq
   exact⟨rfl,⟨_,wh,hw,(hx.step hbq).mono (fun j _ hj=>.inl hj)⟩,.below hbq⟩
  ·by_cases h3:g.down=true
   ·rw[show apF g l=8 from by rw[apF,if_pos h1,if_neg h2,if_pos h3],show apG g l=g from by rw[apG,if_pos h1,if_neg h2,if_pos h3]]
    clear h1
    go_enter Tryz.func105,Tryz.ntmps105
    go_wp2_with (first
     | (go_at_call 146;refine K1.mono ?_;clear K1;rintro e w1 ⟨v1,rfl,own1,hb1⟩;obtain⟨p1,c1,rfl,-⟩:=lw_form own1)
     | (go_at_call 147;refine (headed (encL l) _ _ w1 own1 hle).mono ?_;rintro e w2 ⟨v2,rfl,own2,hb2⟩;obtain⟨p2,c2,rfl,-⟩:=lw_form own2;have hb12:=below_via hb1 hb2;have x2:=hx.step hb12;have d0:=x2.c0;have d2:=x2.c2;have d3:=x2.c3;rw[h3] at d0))
    clear h3
    go_quiet (fail)
    go_wp2
    go_ret
    have hbq:=below_drewN hb12 nq
    exact⟨rfl,⟨_,wh,hw,(hx.step hbq).mono (fun j _ hj=>.inl hj)⟩,.below hbq⟩
   ·have h3':g.down=false:=by simpa using h3
    rw[h3'] at hx
    have fB:=hx.fB
    by_cases h4:g.left=0
    ·rw[show apF g l=8 from by rw[apF,if_pos h1,if_neg h2,if_neg h3,if_pos h4],show apG g l={ g with tl:=(fr l).take ((fr l).length / 2),down:=true } from by rw[apG,if_pos h1,if_neg h2,if_neg h3,if_pos h4]]
     have e0:decide (wh=0)=true:=decide_eq_true (hw.zero.2 h4)
     obtain⟨t0,tb⟩:=ok.up h3'
     obtain⟨M,hM⟩:∃ M,Hid (M=2+(encL l).length):=⟨_,rfl⟩
     obtain⟨Hf,hHf⟩:∃ Hf,Hid (Hf=M / 2):=⟨_,rfl⟩
     have hfl:(fr l).length=M:=by rw[fr_len,hM.out];omega
     have hby:Hid (frs g.ls++(fr l).take ((fr l).length / 2)=g.by++(fr l).take Hf):=by
      show _=_
      rw[hfl,<- tb,<- hHf.out]
     have htl:Hid (((fr l).take Hf).length=Hf):=by show _=_;rw[List.length_take,hfl,hHf.out];omega
     have hwl:Wh (less wh) g.left:=by have:=hw.less;rw[show less g.left=g.left from by rw[h4];rfl] at this;exact this
     clear t0 tb h1 h3 h4 hfl
     go_enter Tryz.func105,Tryz.ntmps105
     go_wp2_with (first
      | (go_at_call 146;refine K1.mono ?_;clear K1;rintro e w1 ⟨v1,rfl,own1,hb1⟩;obtain⟨p1,c1,rfl,-⟩:=lw_form own1)
      | (go_at_call 147;refine (headed (encL l) _ _ w1 own1 hle).mono ?_;rintro e w2 ⟨v2,rfl,own2,hb2⟩;obtain⟨p2,c2,rfl,hc2,-,hp2⟩:=lw_form own2;obtain⟨g7,rfl⟩:=hp2 (by omega);have hb12:=below_via hb1 hb2;have x2:=hx.step hb12;have d0:=x2.c0;have d2:=x2.c2;have d3:=x2.c3))
     go_quiet (fail)
     have hbq:=below_drewN (below_self w2) nq
     have K2:=failing (x2.step hbq) hw.2.2.1 hw.2.2.2
     rw[e0] at K2
     have own2q:=own_below own2 hbq
     go_wp2_with (go_at_call 120;refine K2.mono ?_;clear K2;rintro e w4 ⟨rfl,x4,hb4⟩;have m3:=x4.c3;have fm3:=x4.fz 3 (by decide);have own2a:=row_but own2q hb4 (fun j hj e=>by have:=(lw_lt own2 hj).1;have:=hx.lt;have:=hb1.size;omega))
     rw[<- hM.out] at own2a hc2
     rw[<- hM.out]
     have hM1:M<=1002:=by have:=hM.out;omega
     have hH:(M:Int) / 2=(Hf:Int):=by have:=hHf.out;omega
     have hHM:Hf<=M:=by have:=hHf.out;omega
     have hHc:(Hf:Int)<=(c2:Int):=by omega
     have hHn:Hf<=c2:=by omega
     have hwr:IntKind.i64.wrap (Hf:Int)=(Hf:Int):=by rw[IntKind.wrap_i64];omega
     have x4d:=x4.step (below_self w4).drew
     obtain⟨i0,hin,hz0,hz1,hz2⟩:=info_parts infoByte
     obtain⟨u3,w5,hr,own5,hg5,_,hat5⟩:=run_append_own_at (P:=Tryz.prog) w4.drew 0 30 30 5 i0 (.int .u8 0) 1 1 Tryz.underlying30 hin hz0 hz1 hz2 rfl (by decide) (.slice p3 g.by.length c3) g.by.length (byV g.by) x4d.row ⟨g7,0,none⟩ Hf c2 (byV ((fr l).take Hf)) (by rw[byV_len,htl.out];omega) (fun j u hj=>by
      have hjl:j<Hf:=by have:=(List.getElem?_eq_some_iff.1 hj).1;rw[byV_len,htl.out] at this;exact this
      rw[show (⟨g7,0,none⟩:Addr).add j=⟨g7,j,none⟩ from by unfold Addr.add;split <;> simp_all]
      have e1:=own2a.cellAt j (by omega)
      have e2:(byV (fr l))[j]? = some u:=by
       rw[byV,List.getElem?_map] at hj ⊢
       rw[List.getElem?_take,if_pos hjl] at hj
       exact hj
      exact e1.trans e2) (lw_one _) (by unfold maxLen;omega) (by omega) (Nat.zero_le _)
     obtain⟨pu,cu,rfl,-⟩:=lw_form own5
     obtain⟨n3,fn3,x5,bt5⟩:=x4d.grow htl.out.symm own5 hg5 hat5
     have hb124:But F w w4:=((But.below hb12).step hbq).then hb4 (fun i _ e=>by rw[e];exact fB)
     have hs4:=hb124.size
     have X10:Hid (LT (w5.setCell ⟨B,3,none⟩ (.slice pu (g.by.length+Hf) cu)) (Nw F w (w5.setCell ⟨B,3,none⟩ (.slice pu (g.by.length+Hf) cu))) B ⟨g.room,g.ls,(fr l).take ((fr l).length / 2),g.safe,g.left,true⟩):=by
      refine⟨.slice pu (g.by.length+Hf) cu,_,hwl,?_⟩
      show LX _ _ _ true _ _ _ _ (frs g.ls++(fr l).take ((fr l).length / 2))
      rw[hby.out]
      exact x5.mono (fun j _ hj=>Nw.two (b:=w4.drew) hs4 (by simp[World.setCell]) j hj)
     have BT:Hid (But F w (w5.setCell ⟨B,3,none⟩ (.slice pu (g.by.length+Hf) cu))):=hb124.drew.then bt5 (fun i _ e=>e)
     clear hb124 hs4 hby hwl hw x5 bt5 own5 hat5 x4d own2a own2q x4 hb4 hb12 hb1 hb2 own2 own1 x2 hbq hx d0 d2 d3 ok hp hc hl
     have m3d:w4.drew.cell? ⟨B,3,none⟩=some (.slice p3 g.by.length c3):=m3
     go_region_law (refine lw_append_run rfl _ _ 30 rfl rfl rfl hr ?_)
     all_goals go_wp2_with fail
     all_goals go_ret
     all_goals exact⟨rfl,X10.out,BT.out⟩
    ·rw[show apF g l=0 from by rw[apF,if_pos h1,if_neg h2,if_neg h3,if_neg h4],show apG g l={ g with ls:=g.ls ++ [l],left:=less g.left } from by rw[apG,if_pos h1,if_neg h2,if_neg h3,if_neg h4]]
     have e0:decide (wh=0)=false:=decide_eq_false (fun e=>h4 (hw.zero.1 e))
     obtain⟨t0,tb⟩:=ok.up h3'
     have hby:Hid (frs (g.ls ++ [l])++g.tl=g.by++fr l):=by
      show _=_
      rw[t0,List.append_nil,frs_app,frs_one,<- tb]
     have hm:Hid (2+(encL l).length=(fr l).length):=by show _=_;rw[fr_len];omega
     have hwl:=hw.less
     clear t0 tb h1 h3 h4
     go_enter Tryz.func105,Tryz.ntmps105
     go_wp2_with (first
      | (go_at_call 146;refine K1.mono ?_;clear K1;rintro e w1 ⟨v1,rfl,own1,hb1⟩;obtain⟨p1,c1,rfl,-⟩:=lw_form own1)
      | (go_at_call 147;refine (headed (encL l) _ _ w1 own1 hle).mono ?_;rintro e w2 ⟨v2,rfl,own2,hb2⟩;obtain⟨p2,c2,rfl,-⟩:=lw_form own2;have hb12:=below_via hb1 hb2;have x2:=hx.step hb12;have d0:=x2.c0;have d2:=x2.c2;have d3:=x2.c3))
     go_quiet (fail)
     have hbq:=below_drewN (below_self w2) nq
     have K2:=failing (x2.step hbq) hw.2.2.1 hw.2.2.2
     rw[e0] at K2
     have own2q:=own_below own2 hbq
     go_wp2_with (first
      | (go_at_call 120;refine K2.mono ?_;clear K2;rintro e w4 ⟨rfl,x4,hb4⟩;have m3:=x4.c3;have fm3:=x4.fz 3 (by decide);have own2a:=row_but own2q hb4 (fun j hj e=>by have:=(lw_lt own2 hj).1;have:=hx.lt;have:=hb1.size;omega))
      | (at_builtin;refine wpList_append_row 30 5 1 1 _ Tryz.underlying30 infoByte rfl (by decide) (by decide) rfl _ _ rfl 0 _ g.by.length (byV g.by) rfl x4.row (Nat.zero_le _) w1.heap.size _ (2+(encL l).length) (byV (fr l)) rfl own2a (lw_one _) (by omega) ?_;intro u3 w5 own5 hg5 hat5;obtain⟨pu,cu,rfl,-⟩:=lw_form own5;obtain⟨n3,fn3,x5,bt5⟩:=x4.grow hm.out own5 hg5 hat5))
     go_ret
     have hb124:But F w w4:=((But.below hb12).step hbq).then hb4 (fun i _ e=>by rw[e];exact fB)
     have hs4:=hb124.size
     refine⟨rfl,⟨.slice pu (g.by.length+(2+(encL l).length)) cu,_,hwl,?_⟩,hb124.then bt5 (fun i _ e=>e)⟩
     show LX _ _ _ g.down _ _ _ _ (frs (g.ls ++ [l])++g.tl)
     rw[hby.out,h3']
     exact x5.mono (fun j _ hj=>Nw.two hs4 (by simp[World.setCell]) j hj)
 ·rw[show apF g l=chF l from if_neg h1,show apG g l=g from if_neg h1]
  have K:=encode l p c w (by omega) hp
  rw[ev_ne h1,show enS l=[] from if_neg h1] at K
  rw[ev_ne h1]
  generalize chF l=z at K
  clear h1
  go_enter Tryz.func105,Tryz.ntmps105
  go_wp2_with (go_at_call 146;refine K.mono ?_;rintro e w1 ⟨q,cq,rfl,-,-,hb1⟩)
  go_ret
  exact⟨rfl,⟨_,wh,hw,(hx.step hb1).mono (fun j _ hj=>.inl hj)⟩,.below hb1⟩
end Go.Proofs.YtcjdoeclblhaeaaGreatDoor

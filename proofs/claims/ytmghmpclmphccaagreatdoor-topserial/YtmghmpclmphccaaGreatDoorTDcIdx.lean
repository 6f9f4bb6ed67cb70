/- -/
import Derived.Test.YtmghmpclmphccaaGreatDoorTVsBase
import Derived.Shelf.Abstract
set_option maxHeartbeats 1000000
namespace Go.Proofs.YtmghmpclmphccaaGreatDoor
open Go.RowKit Vs
def idxP (P:Pr->Bool):Int->List Pr->Int
 | _,[] => -1
 | k,s :: r=>if P s=true then k else idxP P (k+1) r
theorem idxP_any (P:Pr->Bool):∀ (l:List Pr) (k:Int),0<=k->decide (0<=idxP P k l)=l.any P
 | [],k,_=>by simp[idxP]
 | s :: r,k,hk=>by
  rw[idxP,List.any_cons]
  cases h:P s with
  | true=>simp[hk]
  | false=>simp only [Bool.false_eq_true,if_false,Bool.false_or];exact idxP_any P r (k+1) (by omega)
theorem idxP_at (P:Pr->Bool):∀ (l:List Pr) (k:Int),(idxP P k l = -1 /\ ∀ x∈l,P x=false) \/ ∃ (i:Nat) (x:Pr),idxP P k l=k+i/\l[i]? = some x/\P x=true /\ ∀ y∈l.take i,P y=false
 | [],k=>.inl ⟨rfl,fun x h=>by simp at h⟩
 | s :: r,k=>by
  rw[idxP]
  cases h:P s with
  | true=>exact .inr ⟨0,s,by simp,rfl,h,fun y hy=>by simp at hy⟩
  | false=>
   rw[if_neg (by simp)]
   rcases idxP_at P r (k+1) with ⟨h1,h2⟩|⟨i,x,h1,h2,h3,h4⟩
   ·exact .inl ⟨h1,fun x hx=>by
     rcases List.mem_cons.1 hx with rfl|hx
     ·exact h
     ·exact h2 x hx⟩
   ·refine .inr ⟨i+1,x,by rw[h1];omega,by simpa using h2,h3,fun y hy=>?_⟩
    rw[List.take_succ_cons] at hy
    rcases List.mem_cons.1 hy with rfl|hy
    ·exact h
    ·exact h4 y hy
theorem indexSt (g:Nat) (lb:Array Value) (eg:∀ args w,(callFunc g args).run Tryz.prog w=.ok (.enter g args) w) (P:Pr->Bool) (q:Option Addr) (cap:Nat) (l:List Pr) (w:World) (hz:l.length<=1000000) (hq:PrAt w q l)
  (hF:∀ (x:Pr) (w1:World),x∈l->Below w.heap.size w w1->Calls Tryz.prog g (#[.agg #[.string x.1,.string x.2]]++lb) w1 fun e w'=>e=.returned (.bool (P x))/\Below w1.heap.size w1 w') :
  Calls Tryz.prog 132 #[.slice q l.length cap,.func (.func g) #[] lb] w fun e w'=>e=.returned (.int .i64 (idxP P 0 l))/\Below w.heap.size w w':=by
 go_enter Tryz.func132,Tryz.ntmps132
 go_wp2
 go_loopw [8] (fun i wr=>∃ k:Nat,k<=l.length/\i=.int .i64 k/\Hid (idxP P 0 l=idxP P k (l.drop k))/\Below w.heap.size w wr) (fun i _=>l.length - (intOf i).toNat)
 case atStart=>exact⟨0,by omega,rfl,rfl,below_self _⟩
 case round=>
  obtain⟨k,hk,rfl,R,hb⟩:=hrel
  have hsz:=hb.size
  by_cases hlt:k<l.length
  ·have hlt':(k:Int)<(l.length:Int):=by omega
   obtain⟨b,off,rfl,hbl,hc⟩:=hq (by omega)
   obtain⟨x,hx⟩:∃ x,l[k]? = some x:=⟨l[k],List.getElem?_eq_getElem hlt⟩
   have HF:=hF x wr (List.mem_of_getElem? hx) hb
   have c0:wr.cell? ⟨b,off+k*2,none⟩=some (.string x.1):=(hb.cell (p:=⟨b,off+k*2,none⟩) hbl).trans (hc k x hx).1
   have c1:wr.cell? ⟨b,off+k*2+1,none⟩=some (.string x.2):=(hb.cell (p:=⟨b,off+k*2+1,none⟩) hbl).trans (hc k x hx).2
   have hd:Hid (l.drop k=x :: l.drop (k+1)):=by
    show _=_
    obtain⟨h,e⟩:=List.getElem?_eq_some_iff.1 hx
    rw[List.drop_eq_getElem_cons h,e]
   clear hx hc hq hF
   cases hp:P x
   ·have R2:Hid (idxP P 0 l=idxP P ((k+1:Nat):Int) (l.drop (k+1))):=by
     show _=_
     rw[R.out,hd.out,idxP,if_neg (by simp[hp])]
     rfl
    rw[hp] at HF
    clear R hd hp
    go_wp2_with (go_at_fn g;refine HF.mono ?_;rintro e w1 ⟨rfl,hb1⟩;have hb2:=below_via hb hb1;clear hb1)
    exact⟨⟨k+1,by omega,by go_num,R2,hb2⟩,by simp[intOf];omega⟩
   ·have R2:Hid (idxP P 0 l=(k:Int)):=by
     show _=_
     rw[R.out,hd.out,idxP,if_pos hp]
    rw[hp] at HF
    clear R hd hp
    go_wp2_with (go_at_fn g;refine HF.mono ?_;rintro e w1 ⟨rfl,hb1⟩;have hb2:=below_via hb hb1;clear hb1)
    go_ret
    exact⟨by rw[R2.out];rfl,hb2⟩
  ·have R2:Hid (idxP P 0 l = -1):=by
    show _=_
    rw[R.out,List.drop_eq_nil_of_le (by omega)]
    rfl
   clear R hF hq
   go_wp2
   go_ret
   exact⟨by rw[R2.out];rfl,hb⟩
theorem indexPr (g:Nat) (lb:Array Value) (eg:∀ args w,(callFunc g args).run Tryz.prog w=.ok (.enter g args) w) (P:Pr->Bool) (q:Option Addr) (cap:Nat) (l:List Pr) (w:World) (hz:l.length<=1000000) (hq:PrAt w q l)
  (hF:∀ (x:Pr) (w1:World),x∈l->Below w.heap.size w w1->Calls Tryz.prog g (#[.agg #[.string x.1,.string x.2]]++lb) w1 fun e w'=>e=.returned (.bool (P x))/\Below w1.heap.size w1 w') :
  Calls Tryz.prog 262 #[.slice q l.length cap,.func (.func g) #[] lb] w fun e w'=>e=.returned (.int .i64 (idxP P 0 l))/\Below w.heap.size w w':=by
 go_enter Tryz.func262,Tryz.ntmps262
 go_wp2
 go_loopw [8] (fun i wr=>∃ k:Nat,k<=l.length/\i=.int .i64 k/\Hid (idxP P 0 l=idxP P k (l.drop k))/\Below w.heap.size w wr) (fun i _=>l.length - (intOf i).toNat)
 case atStart=>exact⟨0,by omega,rfl,rfl,below_self _⟩
 case round=>
  obtain⟨k,hk,rfl,R,hb⟩:=hrel
  have hsz:=hb.size
  by_cases hlt:k<l.length
  ·have hlt':(k:Int)<(l.length:Int):=by omega
   obtain⟨b,off,rfl,hbl,hc⟩:=hq (by omega)
   obtain⟨x,hx⟩:∃ x,l[k]? = some x:=⟨l[k],List.getElem?_eq_getElem hlt⟩
   have HF:=hF x wr (List.mem_of_getElem? hx) hb
   have c0:wr.cell? ⟨b,off+k*2,none⟩=some (.string x.1):=(hb.cell (p:=⟨b,off+k*2,none⟩) hbl).trans (hc k x hx).1
   have c1:wr.cell? ⟨b,off+k*2+1,none⟩=some (.string x.2):=(hb.cell (p:=⟨b,off+k*2+1,none⟩) hbl).trans (hc k x hx).2
   have hd:Hid (l.drop k=x :: l.drop (k+1)):=by
    show _=_
    obtain⟨h,e⟩:=List.getElem?_eq_some_iff.1 hx
    rw[List.drop_eq_getElem_cons h,e]
   clear hx hc hq hF
   cases hp:P x
   ·have R2:Hid (idxP P 0 l=idxP P ((k+1:Nat):Int) (l.drop (k+1))):=by
     show _=_
     rw[R.out,hd.out,idxP,if_neg (by simp[hp])]
     rfl
    rw[hp] at HF
    clear R hd hp
    go_wp2_with (go_at_fn g;refine HF.mono ?_;rintro e w1 ⟨rfl,hb1⟩;have hb2:=below_via hb hb1;clear hb1)
    exact⟨⟨k+1,by omega,by go_num,R2,hb2⟩,by simp[intOf];omega⟩
   ·have R2:Hid (idxP P 0 l=(k:Int)):=by
     show _=_
     rw[R.out,hd.out,idxP,if_pos hp]
    rw[hp] at HF
    clear R hd hp
    go_wp2_with (go_at_fn g;refine HF.mono ?_;rintro e w1 ⟨rfl,hb1⟩;have hb2:=below_via hb hb1;clear hb1)
    go_ret
    exact⟨by rw[R2.out];rfl,hb2⟩
  ·have R2:Hid (idxP P 0 l = -1):=by
    show _=_
    rw[R.out,List.drop_eq_nil_of_le (by omega)]
    rfl
   clear R hF hq
   go_wp2
   go_ret
   exact⟨by rw[R2.out];rfl,hb⟩
theorem containsSt (g:Nat) (lb:Array Value) (eg:∀ args w,(callFunc g args).run Tryz.prog w=.ok (.enter g args) w) (P:Pr->Bool) (q:Option Addr) (cap:Nat) (l:List Pr) (w:World) (hz:l.length<=1000000) (hq:PrAt w q l)
  (hF:∀ (x:Pr) (w1:World),x∈l->Below w.heap.size w w1->Calls Tryz.prog g (#[.agg #[.string x.1,.string x.2]]++lb) w1 fun e w'=>e=.returned (.bool (P x))/\Below w1.heap.size w1 w') :
  Calls Tryz.prog 83 #[.slice q l.length cap,.func (.func g) #[] lb] w fun e w'=>e=.returned (.bool (l.any P))/\Below w.heap.size w w':=by
 have E:Hid _:=idxP_any P l 0 (by omega)
 have HF:=indexSt g lb eg P q cap l w hz hq hF
 clear hF
 go_enter Tryz.func83,Tryz.ntmps83
 go_wp2_with fail
 refine HF.mono ?_
 rintro e w1 ⟨rfl,hb⟩
 go_wp2
 go_ret
 exact⟨by rw[<- E.out];rfl,hb⟩
end Go.Proofs.YtmghmpclmphccaaGreatDoor

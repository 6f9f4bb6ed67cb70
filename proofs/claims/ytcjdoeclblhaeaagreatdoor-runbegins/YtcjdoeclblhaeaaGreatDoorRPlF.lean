/- -/
import Derived.Test.YtcjdoeclblhaeaaGreatDoorRPlA
import Derived.Test.YtcjdoeclblhaeaaGreatDoorRDcA
import Derived.Test.YtcjdoeclblhaeaaGreatDoorRTrWalkE
set_option maxHeartbeats 8000000
set_option maxRecDepth 100000
namespace Go.Proofs.YtcjdoeclblhaeaaGreatDoor.Pa
open Go.RowKit Go.Maps Vs
theorem pfV_app (l m:List Bur.Sp):pfV (l++m)=pfV l++pfV m:=by simp[pfV]
theorem pfV_at:∀ (l:List Bur.Sp) (i:Nat) (x:Bur.Sp),l[i]? = some x->(pfV l)[i*2]? = some (.int .i64 x.1)/\(pfV l)[i*2+1]? = some (.int .i64 x.2)
 | y :: r,0,x,h=>by cases (Option.some.inj h);exact⟨rfl,rfl⟩
 | y :: r,i+1,x,h=>by
  have:=pfV_at r i x (by simpa using h)
  rw[show (i+1)*2=i*2+2 from by omega,show i*2+2+1=i*2+1+2 from by omega]
  exact this
def PfA (w:World) (p:Option Addr) (l:List Bur.Sp):Prop:=0<l.length -> ∃ b off,p=some ⟨b,off,none⟩/\b<w.heap.size /\ ∀ i x,l[i]? = some x->w.cell? ⟨b,off+i*2,none⟩=some (.int .i64 x.1)/\w.cell? ⟨b,off+i*2+1,none⟩=some (.int .i64 x.2)
theorem PfA.step {w w':World} {p:Option Addr} {l:List Bur.Sp} (h:PfA w p l) (hb:Below w.heap.size w w'):PfA w' p l:=fun hl=>by
 obtain⟨b,off,rfl,hlt,hc⟩:=h hl
 refine⟨b,off,rfl,Nat.lt_of_lt_of_le hlt hb.size,fun i o ho=>?_⟩
 rw[hb.cell (p:=⟨b,off+i*2,none⟩) hlt,hb.cell (p:=⟨b,off+i*2+1,none⟩) hlt]
 exact hc i o ho
theorem pfA_own {w:World} {B n cap e:Nat} {p:Option Addr} {l:List Bur.Sp} (h:w.ownsRow B e 2 (.slice p n cap) l.length (pfV l)):n=l.length/\PfA w p l:=by
 obtain⟨p',c',hv,_,_,hp⟩:=lw_form h
 cases hv
 refine⟨rfl,fun hl=>?_⟩
 obtain⟨g,rfl⟩:=hp hl
 refine⟨g,0,rfl,(h.lt g rfl).2,fun i x hx=>?_⟩
 have hi:=(List.getElem?_eq_some_iff.1 hx).1
 obtain⟨a0,a1⟩:=pfV_at l i x hx
 rw[Nat.zero_add]
 exact⟨(h.cellAt _ (by omega)).trans a0,(h.cellAt _ (by omega)).trans a1⟩
def idxP (P:Bur.Sp->Bool):Int->List Bur.Sp->Int
 | _,[] => -1
 | k,s :: r=>if P s=true then k else idxP P (k+1) r
theorem idxP_any (P:Bur.Sp->Bool):∀ (l:List Bur.Sp) (k:Int),0<=k->decide (0<=idxP P k l)=l.any P
 | [],k,_=>by simp[idxP]
 | s :: r,k,hk=>by
  rw[idxP,List.any_cons]
  cases h:P s with
  | true=>simp[hk]
  | false=>simp only [Bool.false_eq_true,if_false,Bool.false_or];exact idxP_any P r (k+1) (by omega)
theorem idxP_at (P:Bur.Sp->Bool):∀ (l:List Bur.Sp) (k:Int),(idxP P k l = -1 /\ ∀ x∈l,P x=false) \/ ∃ (i:Nat) (x:Bur.Sp),idxP P k l=k+i/\l[i]? = some x/\P x=true /\ ∀ y∈l.take i,P y=false
 | [],k=>.inl ⟨rfl,fun x h=>by simp at h⟩
 | s :: r,k=>by
  rw[idxP]
  cases h:P s with
  | true=>exact .inr ⟨0,s,by simp,rfl,h,fun y hy=>by simp at hy⟩
  | false=>
   rw[if_neg (by simp)]
   rcases idxP_at P r (k+1) with ⟨h1,h2⟩|⟨i,x,h1,h2,h3,h4⟩
   ·exact .inl ⟨h1,fun x hx=>by
     rcases List.mem_cons.1 hx with rfl|hx
     ·exact h
     ·exact h2 x hx⟩
   ·refine .inr ⟨i+1,x,by rw[h1];omega,by simpa using h2,h3,fun y hy=>?_⟩
    rw[List.take_succ_cons] at hy
    rcases List.mem_cons.1 hy with rfl|hy
    ·exact h
    ·exact h4 y hy
theorem indexPf (g:Nat) (lb:Array Value) (eg:∀ args w,(callFunc g args).run Tryz.prog w=.ok (.enter g args) w) (P:Bur.Sp->Bool) (q:Option Addr) (cap:Nat) (l:List Bur.Sp) (w:World) (hz:l.length<=1000000) (hq:PfA w q l)
  (hF:∀ (x:Bur.Sp) (w1:World),x∈l->Below w.heap.size w w1->Calls Tryz.prog g (#[.agg #[.int .i64 x.1,.int .i64 x.2]]++lb) w1 fun e w'=>e=.returned (.bool (P x))/\Below w1.heap.size w1 w') :
  Calls Tryz.prog 286 #[.slice q l.length cap,.func (.func g) #[] lb] w fun e w'=>e=.returned (.int .i64 (idxP P 0 l))/\Below w.heap.size w w':=by
 go_enter Tryz.func286,Tryz.ntmps286
 go_wp2
 go_loopw [8] (fun i wr=>∃ k:Nat,k<=l.length/\i=.int .i64 k/\Hid (idxP P 0 l=idxP P k (l.drop k))/\Below w.heap.size w wr) (fun i _=>l.length - (intOf i).toNat)
 case atStart=>exact⟨0,by omega,rfl,rfl,below_self _⟩
 case round=>
  obtain⟨k,hk,rfl,R,hb⟩:=hrel
  have hsz:=hb.size
  by_cases hlt:k<l.length
  ·have hlt':(k:Int)<(l.length:Int):=by omega
   obtain⟨b,off,rfl,hbl,hc⟩:=hq (by omega)
   obtain⟨x,hx⟩:∃ x,l[k]? = some x:=⟨l[k],List.getElem?_eq_getElem hlt⟩
   have HF:=hF x wr (List.mem_of_getElem? hx) hb
   have c0:wr.cell? ⟨b,off+k*2,none⟩=some (.int .i64 x.1):=(hb.cell (p:=⟨b,off+k*2,none⟩) hbl).trans (hc k x hx).1
   have c1:wr.cell? ⟨b,off+k*2+1,none⟩=some (.int .i64 x.2):=(hb.cell (p:=⟨b,off+k*2+1,none⟩) hbl).trans (hc k x hx).2
   have hd:Hid (l.drop k=x :: l.drop (k+1)):=by
    show _=_
    obtain⟨h,e⟩:=List.getElem?_eq_some_iff.1 hx
    rw[List.drop_eq_getElem_cons h,e]
   clear hx hc hq hF
   cases hp:P x
   ·have R2:Hid (idxP P 0 l=idxP P ((k+1:Nat):Int) (l.drop (k+1))):=by
     show _=_
     rw[R.out,hd.out,idxP,if_neg (by simp[hp])]
     rfl
    rw[hp] at HF
    clear R hd hp
    go_wp2_with (go_at_fn g;refine HF.mono ?_;rintro e w1 ⟨rfl,hb1⟩;have hb2:=below_via hb hb1;clear hb1)
    exact⟨⟨k+1,by omega,by go_num,R2,hb2⟩,by simp[intOf];omega⟩
   ·have R2:Hid (idxP P 0 l=(k:Int)):=by
     show _=_
     rw[R.out,hd.out,idxP,if_pos hp]
    rw[hp] at HF
    clear R hd hp
    go_wp2_with (go_at_fn g;refine HF.mono ?_;rintro e w1 ⟨rfl,hb1⟩;have hb2:=below_via hb hb1;clear hb1)
    go_ret
    exact⟨by rw[R2.out];rfl,hb2⟩
  ·have R2:Hid (idxP P 0 l = -1):=by
    show _=_
    rw[R.out,List.drop_eq_nil_of_le (by omega)]
    rfl
   clear R hF hq
   go_wp2
   go_ret
   exact⟨by rw[R2.out];rfl,hb⟩
theorem runClear {w:World} {g o n c:Nat} {cs:List Value} (ty:TypeId) (h:RowIn w 105 g cs) (hn:0<n) (ho:o+n*2<=cs.length) :
  ∃ w' cs',(Builtin.clear_ #[109] ty #[.slice (some ⟨g,o,none⟩) n c]).run Tryz.prog w=.ok (.tuple #[]) w'/\RowIn w' 105 g cs'/\cs'.length=cs.length/\cs'.take o=cs.take o/\But (fun j=>j=g) w w':=by
 have hzl:(Builtin.zeroCells (Value.agg #[.int .i64 0,.int .i64 0]).cells n).toList.length=n*2:=by
  simp[Builtin.zeroCells,Value.cells]
 have h1:∀ u∈(Builtin.zeroCells (Value.agg #[.int .i64 0,.int .i64 0]).cells n).toList,u.oneCell'=true:=by
  intro u hu
  simp[Builtin.zeroCells,Value.cells] at hu
  obtain⟨j,hj,rfl⟩:=hu
  rcases Nat.mod_two_eq_zero_or_one j with e|e <;> simp[e,Value.oneCell']
 generalize hZ:(Builtin.zeroCells (Value.agg #[.int .i64 0,.int .i64 0]).cells n).toList=Z at hzl h1
 have hst:=run_storeCells_cells (P:=Tryz.prog) g o Z 0 w (fun j hj=>by
  rw[h.cell,List.getElem?_eq_getElem (by omega)];rfl) (fun j hj=>h.frozen _) h1
 obtain⟨cs',r1,r2,r3⟩:=RowIn.setCells Z o w cs h
 obtain⟨m,rfl⟩:∃ m,n=m+1:=⟨n - 1,by omega⟩
 refine⟨_,cs',?_,r1,r2,r3,but_setRow Z o w (.refl _ _)⟩
 simp only [Nat.add_zero] at hst
 simp[Builtin.clear_,run_underlying Tryz.underlying109,hZ,hst]
structure Dlt (P:Bur.Sp->Bool) (l:List Bur.Sp) (cs:List Value) (m k:Nat):Prop where
 n:m=((l.take k).filter (fun x => !P x)).length
 d:cs.take (m*2)=pfV ((l.take k).filter (fun x => !P x))
 r:∀ i x,k<=i->l[i]? = some x->cs[i*2]? = some (.int .i64 x.1)/\cs[i*2+1]? = some (.int .i64 x.2)
theorem take_more {l:List Bur.Sp} {k:Nat} {x:Bur.Sp} (h:l[k]? = some x):l.take (k+1)=l.take k ++ [x]:=by
 rw[List.take_add_one,h];rfl
theorem Dlt.gone {P:Bur.Sp->Bool} {l:List Bur.Sp} {cs:List Value} {m k:Nat} {x:Bur.Sp} (h:Dlt P l cs m k) (hx:l[k]? = some x) (hp:P x=true):Dlt P l cs m (k+1):=by
 have e:(l.take (k+1)).filter (fun x => !P x)=(l.take k).filter (fun x => !P x):=by rw[take_more hx,List.filter_append];simp[hp]
 exact⟨by rw[e];exact h.n,by rw[e];exact h.d,fun i y hi=>h.r i y (by omega)⟩
theorem Dlt.stays {P:Bur.Sp->Bool} {l:List Bur.Sp} {cs:List Value} {m k:Nat} {x:Bur.Sp} (h:Dlt P l cs m k) (hx:l[k]? = some x) (hp:P x=false) (hm:m<k) (hc:l.length*2<=cs.length):Dlt P l ((cs.set (m*2) (.int .i64 x.1)).set (m*2+1) (.int .i64 x.2)) (m+1) (k+1):=by
 have e:(l.take (k+1)).filter (fun x => !P x)=(l.take k).filter (fun x => !P x) ++ [x]:=by rw[take_more hx,List.filter_append];simp[hp]
 have hk:k<l.length:=(List.getElem?_eq_some_iff.1 hx).1
 refine⟨by rw[e,List.length_append,<- h.n];rfl,?_,fun i y hi hy=>?_⟩
 ·rw[e,pfV_app,<- h.d]
  apply List.ext_getElem?
  intro j
  by_cases h1:j<m*2
  ·rw[List.getElem?_take_of_lt (by omega),List.getElem?_set_ne (by omega),List.getElem?_set_ne (by omega),List.getElem?_append_left (by rw[List.length_take];omega),List.getElem?_take_of_lt h1]
  ·rw[List.getElem?_append_right (by rw[List.length_take];omega),List.length_take,Nat.min_eq_left (by omega)]
   by_cases h2:j=m*2
   ·subst h2
    rw[List.getElem?_take_of_lt (by omega),List.getElem?_set_ne (by omega),List.getElem?_set_self (by omega)]
    simp[pfV,encP]
   ·by_cases h3:j=m*2+1
    ·subst h3
     rw[List.getElem?_take_of_lt (by omega),List.getElem?_set_self (by rw[List.length_set];omega),show m*2+1 - m*2=1 from by omega]
     simp[pfV,encP]
    ·rw[List.getElem?_take_eq_none (by omega),List.getElem?_eq_none (by simp[pfV,encP];omega)]
 ·obtain⟨a,b⟩:=h.r i y (by omega) hy
  rw[List.getElem?_set_ne (by omega),List.getElem?_set_ne (by omega),List.getElem?_set_ne (by omega),List.getElem?_set_ne (by omega)]
  exact⟨a,b⟩
theorem deletePf (g:Nat) (lb:Array Value) (eg:∀ args w,(callFunc g args).run Tryz.prog w=.ok (.enter g args) w) (P:Bur.Sp->Bool) (B:Nat) (v:Value) (l:List Bur.Sp) (w:World) (hz:l.length<=1000000) (hown:w.ownsRow B 105 2 v l.length (pfV l)) 
  (hF:∀ (x:Bur.Sp) (w1:World),x∈l->But (fun j=>v.ownBlock=some j) w w1->Calls Tryz.prog g (#[.agg #[.int .i64 x.1,.int .i64 x.2]]++lb) w1 fun e w'=>e=.returned (.bool (P x))/\Below w1.heap.size w1 w') :
  Calls Tryz.prog 257 #[v,.func (.func g) #[] lb] w fun e w'=>∃ u,e=.returned u/\w'.ownsRow B 105 2 u (l.filter (fun x => !P x)).length (pfV (l.filter (fun x => !P x)))/\But (fun j=>v.ownBlock=some j) w w'/\(∀ j,u.ownBlock=some j->v.ownBlock=some j):=by
 obtain⟨q,cap,rfl⟩:=own_form hown
 have hI:=indexPf g lb eg P q cap l w hz (pfA_own hown).2 (fun x w1 hx hb=>hF x w1 hx (.below hb))
 rcases idxP_at P l 0 with ⟨h1,h2⟩|⟨i,x,h1,h2,h3,h4⟩
 ·rw[h1] at hI
  have hE:Hid (l.filter (fun x => !P x)=l):=List.filter_eq_self.2 (fun x hx=>by simp[h2 x hx])
  clear h1 h2 hF
  go_enter Tryz.func257,Tryz.ntmps257
  go_wp2_with fail
  refine hI.mono ?_
  rintro e w1 ⟨rfl,hb⟩
  go_wp2
  go_ret
  exact⟨_,rfl,by rw[hE.out];exact own_below hown hb,.below hb,fun _ h=>h⟩
 ·rw[h1,Int.zero_add] at hI
  have hil:i<l.length:=(List.getElem?_eq_some_iff.1 h2).1
  obtain⟨gb,c,hq⟩:=own_block hown (by omega)
  obtain⟨rfl,rfl⟩:q=some ⟨gb,0,none⟩/\cap=c:=by injection hq;exact⟨by assumption,by assumption⟩
  obtain⟨rest,hR,hBg,hcap,hmax,hlen⟩:=rowIn_own hown
  have hD:Hid (Dlt P l (pfV l++rest) i (i+1)):=by
   have e1:(l.take (i+1)).filter (fun x => !P x)=l.take i:=by
    rw[take_more h2,List.filter_append,List.filter_eq_self.2 (fun y hy=>by simp[h4 y hy])]
    simp[h3]
   have e2:(l.take i).length=i:=by rw[List.length_take];omega
   refine⟨by rw[e1,e2],?_,fun j y _ hy=>?_⟩
   ·rw[e1]
    have e3:pfV l=pfV (l.take i)++pfV (l.drop i):=by rw[<- pfV_app,List.take_append_drop]
    rw[e3,List.append_assoc,List.take_append_of_le_length (by rw[pfV_len,e2];exact Nat.le_refl _),List.take_of_length_le (by rw[pfV_len,e2];exact Nat.le_refl _)]
   ·obtain⟨a,b⟩:=pfV_at l j y hy
    have hj:j<l.length:=(List.getElem?_eq_some_iff.1 hy).1
    have hp:=pfV_len l
    rw[List.getElem?_append_left (by omega),List.getElem?_append_left (by omega)]
    exact⟨a,b⟩
  have hgl:=hR.lt
  clear h1 h2 h3 h4 hq
  generalize hcs:pfV l++rest=cs0 at hR hlen hD
  clear hcs
  go_enter Tryz.func257,Tryz.ntmps257
  go_wp2_with fail
  refine hI.mono ?_
  clear hI
  rintro e w1 ⟨rfl,hb1⟩
  have hR1:=hR.keep hb1
  have hbB:But (fun j=>j=gb) w w1:=.below hb1
  have hs1:=hb1.size
  clear hb1 hR hown
  have hne:((i:Int) == -1)=false:=beq_eq_false_iff_ne.2 (by omega)
  go_wp2
  go_loopw [5,6] (fun u z wr=>∃ (m k:Nat) (cs:List Value),u=.int .i64 m/\z=.int .i64 k/\k<=l.length/\m<k/\RowIn wr 105 gb cs/\cs.length=cap*2/\Hid (Dlt P l cs m k)/\But (fun j=>j=gb) w wr) (fun _ z _=>l.length - (intOf z).toNat)
  case atStart=>exact⟨i,i+1,cs0,rfl,by go_num,by omega,by omega,hR1,hlen,hD,hbB⟩
  case round=>
   obtain⟨m,k,cs,rfl,rfl,hk,hm,hRr,hl2,hDr,hb⟩:=hrel
   by_cases hlt:k<l.length
   ·have hlt':(k:Int)<(l.length:Int):=by omega
    obtain⟨x,hx⟩:∃ x,l[k]? = some x:=⟨l[k],List.getElem?_eq_getElem hlt⟩
    obtain⟨r1,r2⟩:=hDr.out.r k x (by omega) hx
    have c0:wr.cell? ⟨gb,k*2,none⟩=some (.int .i64 x.1):=(hRr.cell _).trans r1
    have c1:wr.cell? ⟨gb,k*2+1,none⟩=some (.int .i64 x.2):=(hRr.cell _).trans r2
    have hb2:=hb.alloc (.cells #[.int .i64 x.1,.int .i64 x.2] 105)
    have HF:=hF x _ (List.mem_of_getElem? hx) (hb2.mono (fun j _ e=>by rw[e];rfl))
    have hR2:=hRr.keep (below_al (below_self wr) (.cells #[.int .i64 x.1,.int .i64 x.2] 105))
    have hgr:=hRr.lt
    cases hp:P x
    ·have hD2:Hid (Dlt P l ((cs.set (m*2) (.int .i64 x.1)).set (m*2+1) (.int .i64 x.2)) (m+1) (k+1)):=hDr.out.stays hx hp hm (by omega)
     rw[hp] at HF
     clear hDr hx r1 r2 hp hF
     go_wp2_with (go_at_fn g;refine HF.mono ?_;rintro e w3 ⟨rfl,hb3⟩;have hR3:=hR2.keep hb3;have z0:w3.cell? ⟨gb,m*2,none⟩=cs[m*2]? := hR3.cell _;have z1:w3.cell? ⟨gb,m*2+1,none⟩=cs[m*2+1]? := hR3.cell _;rw[List.getElem?_eq_getElem (by omega)] at z0 z1;have f0:=hR3.frozen (m*2);have f1:=hR3.frozen (m*2+1);have n0:=(hb3.cell (p:=⟨wr.heap.size,0,none⟩) (by simp));have n1:=(hb3.cell (p:=⟨wr.heap.size,1,none⟩) (by simp));simp at n0 n1)
     exact⟨⟨m+1,k+1,_,by go_num,by go_num,by omega,by omega,(hR3.set _ _).set _ _,by rw[List.length_set,List.length_set];exact hl2,hD2,((hb2.step hb3).setCell (.inl rfl) _).setCell (.inl rfl) _⟩,by simp[intOf];omega⟩
    ·have hD2:Hid (Dlt P l cs m (k+1)):=hDr.out.gone hx hp
     rw[hp] at HF
     clear hDr hx r1 r2 hp hF
     go_wp2_with (go_at_fn g;refine HF.mono ?_;rintro e w3 ⟨rfl,hb3⟩;have hR3:=hR2.keep hb3)
     exact⟨⟨m,k+1,cs,rfl,by go_num,by omega,by omega,hR3,hl2,hD2,hb2.step hb3⟩,by simp[intOf];omega⟩
   ·have hmc:m<cap:=by omega
    have hk2:Hid (k=l.length):=by show _=_;omega
    clear hF
    obtain⟨w4,cs4,hr4,hR4,hl4,ht4,hb4⟩:=runClear 0 (o:=m*2) (n:=l.length - m) (c:=cap - m) hRr (by omega) (by omega)
    have hfin:w4.ownsRow B 105 2 (.slice (some ⟨gb,0,none⟩) m cap) (l.filter (fun x => !P x)).length (pfV (l.filter (fun x => !P x))):=by
     have e1:=hDr.out.n
     have e2:=hDr.out.d
     rw[hk2.out,List.take_of_length_le (Nat.le_refl _)] at e1 e2
     rw[<- ht4] at e2
     rw[<- e1,<- e2]
     refine own_rowIn (rest:=cs4.drop (m*2)) (by rw[List.take_append_drop];exact hR4) (by rw[List.length_take];omega) hBg (by omega) hmax (by rw[List.take_append_drop];omega)
    have hbf:=hb.trans hb4
    clear hDr hRr hR4 hl4 ht4 hb4 hk2
    go_wp2
    go_ret
    exact⟨_,rfl,hfin,hbf.mono (fun j _ e=>by rw[e];rfl),fun _ h=>h⟩
end Go.Proofs.YtcjdoeclblhaeaaGreatDoor.Pa
namespace Go.Proofs.YtcjdoeclblhaeaaGreatDoor.Pa
open Go.RowKit Go.Maps Vs
theorem inW_app (l m:List Int):inW (l++m)=inW l++inW m:=by simp[inW]
theorem inW_len (l:List Int):(inW l).length=l.length:=by simp[inW]
theorem inW_at {l:List Int} {i:Nat} {x:Int} (h:l[i]? = some x):(inW l)[i]? = some (.int .i64 x):=by simp[inW,h]
def NmA (w:World) (p:Option Addr) (l:List Int):Prop:=0<l.length -> ∃ b off,p=some ⟨b,off,none⟩/\b<w.heap.size /\ ∀ i x,l[i]? = some x->w.cell? ⟨b,off+i,none⟩=some (.int .i64 x)
theorem nmA_own {w:World} {B n cap e:Nat} {p:Option Addr} {l:List Int} (h:w.ownsRow B e 1 (.slice p n cap) l.length (inW l)):n=l.length/\NmA w p l:=by
 obtain⟨p',c',hv,_,_,hp⟩:=lw_form h
 cases hv
 refine⟨rfl,fun hl=>?_⟩
 obtain⟨g,rfl⟩:=hp hl
 refine⟨g,0,rfl,(h.lt g rfl).2,fun i x hx=>?_⟩
 have hi:=(List.getElem?_eq_some_iff.1 hx).1
 rw[Nat.zero_add]
 exact (h.cellAt _ (by omega)).trans (inW_at hx)
def idxN (P:Int->Bool):Int->List Int->Int
 | _,[] => -1
 | k,s :: r=>if P s=true then k else idxN P (k+1) r
theorem idxN_any (P:Int->Bool):∀ (l:List Int) (k:Int),0<=k->decide (0<=idxN P k l)=l.any P
 | [],k,_=>by simp[idxN]
 | s :: r,k,hk=>by
  rw[idxN,List.any_cons]
  cases h:P s with
  | true=>simp[hk]
  | false=>simp only [Bool.false_eq_true,if_false,Bool.false_or];exact idxN_any P r (k+1) (by omega)
theorem idxN_at (P:Int->Bool):∀ (l:List Int) (k:Int),(idxN P k l = -1 /\ ∀ x∈l,P x=false) \/ ∃ (i:Nat) (x:Int),idxN P k l=k+i/\l[i]? = some x/\P x=true /\ ∀ y∈l.take i,P y=false
 | [],k=>.inl ⟨rfl,fun x h=>by simp at h⟩
 | s :: r,k=>by
  rw[idxN]
  cases h:P s with
  | true=>exact .inr ⟨0,s,by simp,rfl,h,fun y hy=>by simp at hy⟩
  | false=>
   rw[if_neg (by simp)]
   rcases idxN_at P r (k+1) with ⟨h1,h2⟩|⟨i,x,h1,h2,h3,h4⟩
   ·exact .inl ⟨h1,fun x hx=>by
     rcases List.mem_cons.1 hx with rfl|hx
     ·exact h
     ·exact h2 x hx⟩
   ·refine .inr ⟨i+1,x,by rw[h1];omega,by simpa using h2,h3,fun y hy=>?_⟩
    rw[List.take_succ_cons] at hy
    rcases List.mem_cons.1 hy with rfl|hy
    ·exact h
    ·exact h4 y hy
theorem indexN (g:Nat) (lb:Array Value) (eg:∀ args w,(callFunc g args).run Tryz.prog w=.ok (.enter g args) w) (P:Int->Bool) (q:Option Addr) (cap:Nat) (l:List Int) (w:World) (hz:l.length<=1000000) (hq:NmA w q l)
  (hF:∀ (x:Int) (w1:World),x∈l->Below w.heap.size w w1->Calls Tryz.prog g (#[.int .i64 x]++lb) w1 fun e w'=>e=.returned (.bool (P x))/\Below w1.heap.size w1 w') :
  Calls Tryz.prog 259 #[.slice q l.length cap,.func (.func g) #[] lb] w fun e w'=>e=.returned (.int .i64 (idxN P 0 l))/\Below w.heap.size w w':=by
 go_enter Tryz.func259,Tryz.ntmps259
 go_wp2
 go_loopw [8] (fun i wr=>∃ k:Nat,k<=l.length/\i=.int .i64 k/\Hid (idxN P 0 l=idxN P k (l.drop k))/\Below w.heap.size w wr) (fun i _=>l.length - (intOf i).toNat)
 case atStart=>exact⟨0,by omega,rfl,rfl,below_self _⟩
 case round=>
  obtain⟨k,hk,rfl,R,hb⟩:=hrel
  have hsz:=hb.size
  by_cases hlt:k<l.length
  ·have hlt':(k:Int)<(l.length:Int):=by omega
   obtain⟨b,off,rfl,hbl,hc⟩:=hq (by omega)
   obtain⟨x,hx⟩:∃ x,l[k]? = some x:=⟨l[k],List.getElem?_eq_getElem hlt⟩
   have HF:=hF x wr (List.mem_of_getElem? hx) hb
   have c0:wr.cell? ⟨b,off+k,none⟩=some (.int .i64 x):=(hb.cell (p:=⟨b,off+k,none⟩) hbl).trans (hc k x hx)
   have hd:Hid (l.drop k=x :: l.drop (k+1)):=by
    show _=_
    obtain⟨h,e⟩:=List.getElem?_eq_some_iff.1 hx
    rw[List.drop_eq_getElem_cons h,e]
   clear hx hc hq hF
   cases hp:P x
   ·have R2:Hid (idxN P 0 l=idxN P ((k+1:Nat):Int) (l.drop (k+1))):=by
     show _=_
     rw[R.out,hd.out,idxN,if_neg (by simp[hp])]
     rfl
    rw[hp] at HF
    clear R hd hp
    go_wp2_with (go_at_fn g;refine HF.mono ?_;rintro e w1 ⟨rfl,hb1⟩;have hb2:=below_via hb hb1;clear hb1)
    exact⟨⟨k+1,by omega,by go_num,R2,hb2⟩,by simp[intOf];omega⟩
   ·have R2:Hid (idxN P 0 l=(k:Int)):=by
     show _=_
     rw[R.out,hd.out,idxN,if_pos hp]
    rw[hp] at HF
    clear R hd hp
    go_wp2_with (go_at_fn g;refine HF.mono ?_;rintro e w1 ⟨rfl,hb1⟩;have hb2:=below_via hb hb1;clear hb1)
    go_ret
    exact⟨by rw[R2.out];rfl,hb2⟩
  ·have R2:Hid (idxN P 0 l = -1):=by
    show _=_
    rw[R.out,List.drop_eq_nil_of_le (by omega)]
    rfl
   clear R hF hq
   go_wp2
   go_ret
   exact⟨by rw[R2.out];rfl,hb⟩
theorem containsN (g:Nat) (lb:Array Value) (eg:∀ args w,(callFunc g args).run Tryz.prog w=.ok (.enter g args) w) (P:Int->Bool) (q:Option Addr) (cap:Nat) (l:List Int) (w:World) (hz:l.length<=1000000) (hq:NmA w q l)
  (hF:∀ (x:Int) (w1:World),x∈l->Below w.heap.size w w1->Calls Tryz.prog g (#[.int .i64 x]++lb) w1 fun e w'=>e=.returned (.bool (P x))/\Below w1.heap.size w1 w') :
  Calls Tryz.prog 212 #[.slice q l.length cap,.func (.func g) #[] lb] w fun e w'=>e=.returned (.bool (l.any P))/\Below w.heap.size w w':=by
 have E:Hid _:=idxN_any P l 0 (by omega)
 have HF:=indexN g lb eg P q cap l w hz hq hF
 clear hF
 go_enter Tryz.func212,Tryz.ntmps212
 go_wp2_with fail
 refine HF.mono ?_
 rintro e w1 ⟨rfl,hb⟩
 go_wp2
 go_ret
 exact⟨by rw[<- E.out];rfl,hb⟩
theorem runClearN {w:World} {g o n c:Nat} {cs:List Value} (ty:TypeId) (h:RowIn w 3 g cs) (hn:0<n) (ho:o+n<=cs.length) :
  ∃ w' cs',(Builtin.clear_ #[291] ty #[.slice (some ⟨g,o,none⟩) n c]).run Tryz.prog w=.ok (.tuple #[]) w'/\RowIn w' 3 g cs'/\cs'.length=cs.length/\cs'.take o=cs.take o/\But (fun j=>j=g) w w':=by
 have hzl:(Builtin.zeroCells (Value.int .i64 0).cells n).toList.length=n:=by
  simp[Builtin.zeroCells,Value.cells]
 have h1:∀ u∈(Builtin.zeroCells (Value.int .i64 0).cells n).toList,u.oneCell'=true:=by
  intro u hu
  simp[Builtin.zeroCells,Value.cells] at hu
  obtain⟨j,hj,rfl⟩:=hu
  simp[Nat.mod_one,Value.oneCell']
 generalize hZ:(Builtin.zeroCells (Value.int .i64 0).cells n).toList=Z at hzl h1
 have hst:=run_storeCells_cells (P:=Tryz.prog) g o Z 0 w (fun j hj=>by
  rw[h.cell,List.getElem?_eq_getElem (by omega)];rfl) (fun j hj=>h.frozen _) h1
 obtain⟨cs',r1,r2,r3⟩:=RowIn.setCells Z o w cs h
 obtain⟨m,rfl⟩:∃ m,n=m+1:=⟨n - 1,by omega⟩
 refine⟨_,cs',?_,r1,r2,r3,but_setRow Z o w (.refl _ _)⟩
 simp only [Nat.add_zero] at hst
 simp[Builtin.clear_,run_underlying Tryz.underlying291,hZ,hst]
structure DltN (P:Int->Bool) (l:List Int) (cs:List Value) (m k:Nat):Prop where
 n:m=((l.take k).filter (fun x => !P x)).length
 d:cs.take m=inW ((l.take k).filter (fun x => !P x))
 r:∀ i x,k<=i->l[i]? = some x->cs[i]? = some (.int .i64 x)
theorem takeN {l:List Int} {k:Nat} {x:Int} (h:l[k]? = some x):l.take (k+1)=l.take k ++ [x]:=by
 rw[List.take_add_one,h];rfl
theorem DltN.gone {P:Int->Bool} {l:List Int} {cs:List Value} {m k:Nat} {x:Int} (h:DltN P l cs m k) (hx:l[k]? = some x) (hp:P x=true):DltN P l cs m (k+1):=by
 have e:(l.take (k+1)).filter (fun x => !P x)=(l.take k).filter (fun x => !P x):=by rw[takeN hx,List.filter_append];simp[hp]
 exact⟨by rw[e];exact h.n,by rw[e];exact h.d,fun i y hi=>h.r i y (by omega)⟩
theorem DltN.stays {P:Int->Bool} {l:List Int} {cs:List Value} {m k:Nat} {x:Int} (h:DltN P l cs m k) (hx:l[k]? = some x) (hp:P x=false) (hm:m<k) (hc:l.length<=cs.length):DltN P l (cs.set m (.int .i64 x)) (m+1) (k+1):=by
 have e:(l.take (k+1)).filter (fun x => !P x)=(l.take k).filter (fun x => !P x) ++ [x]:=by rw[takeN hx,List.filter_append];simp[hp]
 have hk:k<l.length:=(List.getElem?_eq_some_iff.1 hx).1
 refine⟨by rw[e,List.length_append,<- h.n];rfl,?_,fun i y hi hy=>?_⟩
 ·rw[e,inW_app,<- h.d]
  apply List.ext_getElem?
  intro j
  by_cases h1:j<m
  ·rw[List.getElem?_take_of_lt (by omega),List.getElem?_set_ne (by omega),List.getElem?_append_left (by rw[List.length_take];omega),List.getElem?_take_of_lt h1]
  ·rw[List.getElem?_append_right (by rw[List.length_take];omega),List.length_take,Nat.min_eq_left (by omega)]
   by_cases h2:j=m
   ·subst h2
    rw[List.getElem?_take_of_lt (by omega),List.getElem?_set_self (by omega)]
    simp[inW]
   ·rw[List.getElem?_take_eq_none (by omega),List.getElem?_eq_none (by simp[inW];omega)]
 ·rw[List.getElem?_set_ne (by omega)]
  exact h.r i y (by omega) hy
theorem deleteN (g:Nat) (lb:Array Value) (eg:∀ args w,(callFunc g args).run Tryz.prog w=.ok (.enter g args) w) (P:Int->Bool) (B:Nat) (v:Value) (l:List Int) (w:World) (hz:l.length<=1000000) (hown:w.ownsRow B 3 1 v l.length (inW l))
  (hF:∀ (x:Int) (w1:World),x∈l->But (fun j=>v.ownBlock=some j) w w1->Calls Tryz.prog g (#[.int .i64 x]++lb) w1 fun e w'=>e=.returned (.bool (P x))/\Below w1.heap.size w1 w') :
  Calls Tryz.prog 260 #[v,.func (.func g) #[] lb] w fun e w'=>∃ u,e=.returned u/\w'.ownsRow B 3 1 u (l.filter (fun x => !P x)).length (inW (l.filter (fun x => !P x)))/\But (fun j=>v.ownBlock=some j) w w'/\(∀ j,u.ownBlock=some j->v.ownBlock=some j):=by
 obtain⟨q,cap,rfl⟩:=own_form hown
 have hI:=indexN g lb eg P q cap l w hz (nmA_own hown).2 (fun x w1 hx hb=>hF x w1 hx (.below hb))
 rcases idxN_at P l 0 with ⟨h1,h2⟩|⟨i,x,h1,h2,h3,h4⟩
 ·rw[h1] at hI
  have hE:Hid (l.filter (fun x => !P x)=l):=List.filter_eq_self.2 (fun x hx=>by simp[h2 x hx])
  clear h1 h2 hF
  go_enter Tryz.func260,Tryz.ntmps260
  go_wp2_with fail
  refine hI.mono ?_
  rintro e w1 ⟨rfl,hb⟩
  go_wp2
  go_ret
  exact⟨_,rfl,by rw[hE.out];exact rowStep hown hb,.below hb,fun _ h=>h⟩
 ·rw[h1,Int.zero_add] at hI
  have hil:i<l.length:=(List.getElem?_eq_some_iff.1 h2).1
  obtain⟨gb,c,hq⟩:=own_block hown (by omega)
  obtain⟨rfl,rfl⟩:q=some ⟨gb,0,none⟩/\cap=c:=by injection hq;exact⟨by assumption,by assumption⟩
  obtain⟨rest,hR,hBg,hcap,hmax,hlen⟩:=rowIn_own hown
  have hD:Hid (DltN P l (inW l++rest) i (i+1)):=by
   have e1:(l.take (i+1)).filter (fun x => !P x)=l.take i:=by
    rw[takeN h2,List.filter_append,List.filter_eq_self.2 (fun y hy=>by simp[h4 y hy])]
    simp[h3]
   have e2:(l.take i).length=i:=by rw[List.length_take];omega
   refine⟨by rw[e1,e2],?_,fun j y _ hy=>?_⟩
   ·rw[e1]
    have e3:inW l=inW (l.take i)++inW (l.drop i):=by rw[<- inW_app,List.take_append_drop]
    rw[e3,List.append_assoc,List.take_append_of_le_length (by rw[inW_len,e2];exact Nat.le_refl _),List.take_of_length_le (by rw[inW_len,e2];exact Nat.le_refl _)]
   ·have hj:j<l.length:=(List.getElem?_eq_some_iff.1 hy).1
    have hp:=inW_len l
    rw[List.getElem?_append_left (by omega)]
    exact inW_at hy
  have hgl:=hR.lt
  clear h1 h2 h3 h4 hq
  generalize hcs:inW l++rest=cs0 at hR hlen hD
  clear hcs
  go_enter Tryz.func260,Tryz.ntmps260
  go_wp2_with fail
  refine hI.mono ?_
  clear hI
  rintro e w1 ⟨rfl,hb1⟩
  have hR1:=hR.keep hb1
  have hbB:But (fun j=>j=gb) w w1:=.below hb1
  have hs1:=hb1.size
  clear hb1 hR hown
  have hne:((i:Int) == -1)=false:=beq_eq_false_iff_ne.2 (by omega)
  go_wp2
  go_loopw [5,6] (fun u z wr=>∃ (m k:Nat) (cs:List Value),u=.int .i64 m/\z=.int .i64 k/\k<=l.length/\m<k/\RowIn wr 3 gb cs/\cs.length=cap*1/\Hid (DltN P l cs m k)/\But (fun j=>j=gb) w wr) (fun _ z _=>l.length - (intOf z).toNat)
  case atStart=>exact⟨i,i+1,cs0,rfl,by go_num,by omega,by omega,hR1,hlen,hD,hbB⟩
  case round=>
   obtain⟨m,k,cs,rfl,rfl,hk,hm,hRr,hl2,hDr,hb⟩:=hrel
   by_cases hlt:k<l.length
   ·have hlt':(k:Int)<(l.length:Int):=by omega
    obtain⟨x,hx⟩:∃ x,l[k]? = some x:=⟨l[k],List.getElem?_eq_getElem hlt⟩
    have r1:=hDr.out.r k x (by omega) hx
    have c0:wr.cell? ⟨gb,k,none⟩=some (.int .i64 x):=(hRr.cell _).trans r1
    have HF:=hF x _ (List.mem_of_getElem? hx) (hb.mono (fun j _ e=>by rw[e];rfl))
    have hgr:=hRr.lt
    cases hp:P x
    ·have hD2:Hid (DltN P l (cs.set m (.int .i64 x)) (m+1) (k+1)):=hDr.out.stays hx hp hm (by omega)
     rw[hp] at HF
     clear hDr hx r1 hp hF
     go_wp2_with (go_at_fn g;refine HF.mono ?_;rintro e w3 ⟨rfl,hb3⟩;have hR3:=hRr.keep hb3;have z0:w3.cell? ⟨gb,m,none⟩=cs[m]? := hR3.cell _;rw[List.getElem?_eq_getElem (by omega)] at z0;have f0:=hR3.frozen m)
     exact⟨⟨m+1,k+1,_,by go_num,by go_num,by omega,by omega,hR3.set _ _,by rw[List.length_set];exact hl2,hD2,(hb.step hb3).setCell (.inl rfl) _⟩,by simp[intOf];omega⟩
    ·have hD2:Hid (DltN P l cs m (k+1)):=hDr.out.gone hx hp
     rw[hp] at HF
     clear hDr hx r1 hp hF
     go_wp2_with (go_at_fn g;refine HF.mono ?_;rintro e w3 ⟨rfl,hb3⟩;have hR3:=hRr.keep hb3)
     exact⟨⟨m,k+1,cs,rfl,by go_num,by omega,by omega,hR3,hl2,hD2,hb.step hb3⟩,by simp[intOf];omega⟩
   ·have hmc:m<cap:=by omega
    have hk2:Hid (k=l.length):=by show _=_;omega
    clear hF
    obtain⟨w4,cs4,hr4,hR4,hl4,ht4,hb4⟩:=runClearN 0 (o:=m) (n:=l.length - m) (c:=cap - m) hRr (by omega) (by omega)
    have hfin:w4.ownsRow B 3 1 (.slice (some ⟨gb,0,none⟩) m cap) (l.filter (fun x => !P x)).length (inW (l.filter (fun x => !P x))):=by
     have e1:=hDr.out.n
     have e2:=hDr.out.d
     rw[hk2.out,List.take_of_length_le (Nat.le_refl _)] at e1 e2
     rw[<- ht4] at e2
     rw[<- e1,<- e2]
     refine own_rowIn (rest:=cs4.drop m) (by rw[List.take_append_drop];exact hR4) (by rw[List.length_take];omega) hBg (by omega) hmax (by rw[List.take_append_drop];omega)
    have hbf:=hb.trans hb4
    clear hDr hRr hR4 hl4 ht4 hb4 hk2
    go_wp2
    go_ret
    exact⟨_,rfl,hfin,hbf.mono (fun j _ e=>by rw[e];rfl),fun _ h=>h⟩
end Go.Proofs.YtcjdoeclblhaeaaGreatDoor.Pa
namespace Go.Proofs.YtcjdoeclblhaeaaGreatDoor.Pa
open Go.RowKit Go.Maps Vs
theorem sm_dec (p q:Bur.Sp):Bur.sm (p.1,p.2) (q.1,q.2)=decide (p=q):=by
 obtain⟨a,b⟩:=p
 obtain⟨c,d⟩:=q
 by_cases h1:a=c <;> by_cases h2:b=d <;> simp[Bur.sm,h1,h2]
theorem plInner1 (q:Bur.Sp) (b B:Nat) (c:Cl) (i:Int) (w:World) (h:Wk w b B c i):Calls Tryz.prog 258 #[pfx q.1 q.2,.pointer (some ⟨b,0,none⟩)] w fun e w'=>e=.returned (.bool (decide (q=c.p) || !Bur.witB q.1 q.2 c.p.1 c.p.2))/\Below w.heap.size w w':=by
 have bA:=below_al (below_self w) (.cells #[.int .i64 q.1,.int .i64 q.2] 105)
 have hA:=h.step bA
 have c3:=hA.c3
 have c4:=hA.c4
 have hm:=Ta.eqGuard_pfx
 have E:=fun w=>Ta.eqPfx q.1 q.2 c.p.1 c.p.2 w
 rw[sm_dec] at E
 have K:=fun w1=>plWithin q.1 q.2 c.p.1 c.p.2 w1
 cases hq:decide (q=c.p)
 ·rw[hq] at E
  generalize Bur.witB q.1 q.2 c.p.1 c.p.2=R at K ⊢
  clear hq
  go_enter Tryz.func258,Tryz.ntmps258
  go_wp2_with (go_at_call 256;refine (K _).mono ?_;rintro e w1 ⟨rfl,hb1⟩)
  go_ret
  exact⟨by cases R <;> rfl,below_via bA hb1⟩
 ·rw[hq] at E
  clear hq
  go_enter Tryz.func258,Tryz.ntmps258
  go_wp2_with fail
  go_ret
  exact⟨by simp,bA⟩
theorem plInside1 (a:Int) (b B:Nat) (c:Cl) (i:Int) (w:World) (h:Wk w b B c i):Calls Tryz.prog 261 #[.int .i64 a,.pointer (some ⟨b,0,none⟩)] w fun e w'=>e=.returned (.bool (!Bur.witB a 32 c.p.1 c.p.2))/\Below w.heap.size w w':=by
 have c3:=h.c3
 have c4:=h.c4
 have hl:=h.lt
 have KS:=plSingle a w.drew
 have K:=fun w1=>plWithin a 32 c.p.1 c.p.2 w1
 generalize Bur.witB a 32 c.p.1 c.p.2=R at K ⊢
 go_enter Tryz.func261,Tryz.ntmps261
 go_wp2_with fail
 go_region_held3 (fun wy=>wy.cell? ⟨b,3,none⟩=some (.int .i64 c.p.1)/\wy.cell? ⟨b,4,none⟩=some (.int .i64 c.p.2))
  (first|exact⟨t3,t4⟩|exact⟨s3,s4⟩|exact⟨c3,c4⟩)
  (first
   | (go_at_call 162;refine KS.mono ?_;rintro e w3 ⟨rfl,hb3⟩;have s3:=(hb3.cell (p:=⟨b,3,none⟩) hl).trans c3;have s4:=(hb3.cell (p:=⟨b,4,none⟩) hl).trans c4;have hl3:b<w3.heap.size:=Nat.lt_of_lt_of_le hl hb3.size)
   | (go_at_call 256;refine (K _).mono ?_;rintro e w4 ⟨rfl,hb4⟩;have t3:=(hb4.cell (p:=⟨b,3,none⟩) hl3).trans s3;have t4:=(hb4.cell (p:=⟨b,4,none⟩) hl3).trans s4))
 go_wp2_with fail
 go_ret
 exact⟨rfl,below_via (below_via (below_self w).drew hb3) hb4⟩
theorem enterI:∀ args w,(callFunc 258 args).run Tryz.prog w=.ok (.enter 258 args) w:=enters_of Tryz.func258 (by kernel_rfl) rfl
theorem enterJ:∀ args w,(callFunc 261 args).run Tryz.prog w=.ok (.enter 261 args) w:=enters_of Tryz.func261 (by kernel_rfl) rfl
theorem plInner (c:Cl) (i:Int) (B:Nat) (l:List Lot) (p:Option Addr) (cap:Nat) (w:World) (hl:l.length<=1000000) (hp:LotAt w p l) :
  Calls Tryz.prog 211 #[wkV B c i,.slice p l.length cap] w fun e w'=>∃ u,e=.returned u/\w'.ownsRow w.heap.size 105 2 u (inn c.p l).length (pfV (inn c.p l))/\Below w.heap.size w w':=by
 have bA:=below_al (below_self w) (.cells (wkA B c i) 188)
 have wk:=Wk.new w B c i 188
 have KO:=plOfLots l p cap _ hl (hp.step bA)
 have KD:=fun v w1 (hb:Below (w.alloc (.cells (wkA B c i) 188)).heap.size (w.alloc (.cells (wkA B c i) 188)) w1) (hrow:w1.ownsRow (w.alloc (.cells (wkA B c i) 188)).heap.size 105 2 v l.length (pfV (l.map Prod.fst)))=>
  deletePf 258 #[.pointer (some ⟨w.heap.size,0,none⟩)] enterI (fun q=>decide (q=c.p) || !Bur.witB q.1 q.2 c.p.1 c.p.2) _ v (l.map Prod.fst) w1 (by simpa using hl) (by simpa using hrow) (fun x w2 _ hb2=>plInner1 x w.heap.size B c i w2 ((wk.step hb).but hb2 (fun q=>by have:=(hrow.lt _ q).1;have:=wk.lt;omega)))
 have e1:(l.map Prod.fst).filter (fun x => !(decide (x=c.p) || !Bur.witB x.1 x.2 c.p.1 c.p.2))=inn c.p l:=rfl
 rw[e1] at KD
 clear e1
 have hsA:=bA.size
 generalize inn c.p l=R at KD ⊢
 go_enter Tryz.func211,Tryz.ntmps211
 go_wp2_with (first
  | (go_at_call 220;refine KO.mono ?_;clear KO;rintro e w1 ⟨v,rfl,hrow,hb1⟩;have KD1:=KD v w1 hb1 hrow)
  | (go_at_call 257;refine KD1.mono ?_;clear KD1;rintro e w2 ⟨u,rfl,hu,hb2,_⟩))
 go_ret
 exact⟨_,rfl,ownMono (Nat.le_succ _) hu,(below_via bA hb1).trans (hb2.under (by have:=hb1.size;omega) (fun k hk q=>by have:=(hrow.lt k q).1;omega))⟩
theorem plInside (c:Cl) (i:Int) (B n0:Nat) (l:List Int) (v:Value) (w:World) (hl:l.length<=1000000) (hrow:w.ownsRow n0 3 1 v l.length (inW l)) :
  Calls Tryz.prog 213 #[wkV B c i,v] w fun e w'=>∃ u,e=.returned u/\w'.ownsRow n0 3 1 u (ins c.p l).length (inW (ins c.p l))/\But (fun j=>v.ownBlock=some j) w w'/\(∀ j,u.ownBlock=some j->v.ownBlock=some j):=by
 have bA:=below_al (below_self w) (.cells (wkA B c i) 188)
 have wk:=Wk.new w B c i 188
 have rowA:=rowStep hrow bA
 have KD:=deleteN 261 #[.pointer (some ⟨w.heap.size,0,none⟩)] enterJ (fun a => !Bur.witB a 32 c.p.1 c.p.2) n0 v l _ hl rowA (fun x w2 _ hb2=>plInside1 x w.heap.size B c i w2 (wk.but hb2 (fun q=>by have:=(hrow.lt _ q).2;omega)))
 have e1:l.filter (fun x => !!Bur.witB x 32 c.p.1 c.p.2)=ins c.p l:=by simp[ins]
 rw[e1] at KD
 clear e1
 generalize ins c.p l=R at KD ⊢
 obtain⟨pv,cv,rfl⟩:=own_form hrow
 go_enter Tryz.func213,Tryz.ntmps213
 go_wp2_with (go_at_call 260;refine KD.mono ?_;clear KD;rintro e w2 ⟨u,rfl,hu,hb2,hub⟩)
 go_ret
 exact⟨_,rfl,hu,(But.below bA:But _ w _).trans hb2,hub⟩
end Go.Proofs.YtcjdoeclblhaeaaGreatDoor.Pa
namespace Vs
theorem kN_size (n:ByteArray):(kN n).size=n.size+2:=by
 have:n.data.toList.length=n.size:=Array.length_toList
 rw[kN,txt_size,Bur.netK,List.length_append,this]
 show 2+n.size=_
 omega
theorem kA_size (n:ByteArray) (a:Int):(kA n a).size=n.size+11:=by
 have:n.data.toList.length=n.size:=Array.length_toList
 rw[kA,txt_size,Bur.adrK,List.length_append,List.length_append,List.length_append,this,Bur.hxK_len]
 show 2+n.size+1+8=_
 omega
theorem kP_size (n:ByteArray) (p:Bur.Sp):(kP n p).size=n.size+13:=by
 have:n.data.toList.length=n.size:=Array.length_toList
 rw[kP,txt_size,Bur.pfxK,List.length_append,List.length_append,List.length_append,List.length_append,this,Bur.hxK_len]
 show 2+n.size+1+8+2=_
 omega
end Vs
namespace Go.Proofs.YtcjdoeclblhaeaaGreatDoor.Pa
open Go.RowKit Go.Maps Vs
section
variable {T:Td} {w:World} {F:Nat->Prop} {B:Nat} {d:Dk}
theorem Dj.box (V:DFace T) (h:Ds T w F B d) {d':Dk} {w1 w2:World} (b1:Below w.heap.size w w1) (hT:T w2 (Nw F w1 w2) B d') (hb:But F w1 w2):Dj T F w w2 B d':=Dj.then (F1:=F) (.below b1) (fun _ hj=>.inl hj) (Dj.of (h.step V b1) hT (fun _ hj=>hj) hb)
theorem plPutPrefix (V:DFace T) (c:Cl) (i:Int) (q:Bur.Sp) (h:Ds T w F B d) (ok:OkD d) (sm:Sm d) (hn:c.nm.size<=1000) (how:c.ow.size<=maxLen) (q0:0<=q.1) (q1:q.1<=4294967295) (q2:0<=q.2) (q3:q.2<100) :
  Calls Tryz.prog 206 #[wkV B c i,pfx q.1 q.2] w fun e w'=>e=.returned (ev (dcF d i ⟨kP c.nm q,c.ow,false⟩))/\Dj T F w w' B (dcD d i ⟨kP c.nm q,c.ow,false⟩):=by
 obtain⟨W,hW⟩:∃ W,W=(w.alloc (.cells (wkA B c i) 188)).alloc (.cells #[.int .i64 q.1,.int .i64 q.2] 105):=⟨_,rfl⟩
 have bW:Below w.heap.size w W:=by rw[hW];exact below_al (below_al (below_self w) _) _
 have wk:Wk W w.heap.size B c i:=by rw[hW];exact (Wk.new w B c i 188).step (below_al (below_self _) _)
 have g0:W.cell? ⟨w.heap.size+1,0,none⟩=some (.int .i64 q.1):=by rw[hW];simp
 have g1:W.cell? ⟨w.heap.size+1,1,none⟩=some (.int .i64 q.2):=by rw[hW];simp
 have hl1:w.heap.size+1<W.heap.size:=by rw[hW];simp
 have hW1:=h.step V bW
 have KK:=plPrefixKey c.nm q.1 q.2 W.drew (hW1.en.step (below_self W).drew).tab hn q0 q1 q2 q3
 have KP:=fun w1 (b1:Below W.drew.heap.size W.drew w1)=>V.put i (kP c.nm q) c.ow (hW1.step V (below_via (below_self W).drew b1)).t ok sm (hW1.step V (below_via (below_self W).drew b1)).lt (by rw[kP_size];unfold maxLen;omega) how
 have hkk:(⟨(Bur.pfxK c.nm.data.toList q.1 q.2).toArray⟩:ByteArray)=kP c.nm q:=rfl
 rw[hkk] at KK
 have fin:=fun w1 w2 (b1:Below W.drew.heap.size W.drew w1) hT hb=>Dj.box V h (d':=dcD d i ⟨kP c.nm q,c.ow,false⟩) (below_via bW (below_via (below_self W).drew b1)) (w2:=w2) hT hb
 have FH:Hid _:=fin
 have hbx:∀ (j:Nat),w.heap.size<=j -> ¬ F j:=fun j hj q=>by have:=h.lt j q;omega
 have k0:=wk.c0
 have k2:=wk.c2
 have k7:=wk.c7
 have k8:=wk.c8
 have hlb:=wk.lt
 obtain⟨bb,hbb⟩:∃ bb,bb=w.heap.size:=⟨_,rfl⟩
 rw[<- hbb] at k0 k2 k7 k8 hlb g0 g1 hl1
 have hb0:=hbx bb (by omega)
 have hb1:=hbx (bb+1) (by omega)
 clear fin wk hW1 hkk hbx
 generalize kP c.nm q=KY at KK KP FH ⊢
 go_enter Tryz.func206,Tryz.ntmps206
 go_wp2_with fail
 rw[<- hW,<- hbb]
 clear hW bW hbb
 go_region_held3 (fun wy=>wy.cell? ⟨bb,0,none⟩=some (.pointer (some ⟨B,0,none⟩))/\wy.cell? ⟨bb,2,none⟩=some (.string c.nm)/\wy.cell? ⟨bb,7,none⟩=some (.string c.ow)/\wy.cell? ⟨bb,8,none⟩=some (.int .i64 i)/\wy.cell? ⟨bb+1,0,none⟩=some (.int .i64 q.1)/\wy.cell? ⟨bb+1,1,none⟩=some (.int .i64 q.2))
  (first|exact⟨t0,t2,t7,t8,u0,u1⟩|exact⟨s0,s2,s7,s8,r0,r1⟩|exact⟨k0,k2,k7,k8,g0,g1⟩)
  (first
   | (go_at_call 205;refine KK.mono ?_;clear KK;rintro e w3 ⟨rfl,hb3⟩;have s0:=(hb3.cell (p:=⟨bb,0,none⟩) hlb).trans k0;have s2:=(hb3.cell (p:=⟨bb,2,none⟩) hlb).trans k2;have s7:=(hb3.cell (p:=⟨bb,7,none⟩) hlb).trans k7;have s8:=(hb3.cell (p:=⟨bb,8,none⟩) hlb).trans k8;have r0:=(hb3.cell (p:=⟨bb+1,0,none⟩) hl1).trans g0;have r1:=(hb3.cell (p:=⟨bb+1,1,none⟩) hl1).trans g1;have hl3:bb<w3.heap.size:=Nat.lt_of_lt_of_le hlb hb3.size;have hl4:bb+1<w3.heap.size:=Nat.lt_of_lt_of_le hl1 hb3.size;have KP1:=KP w3 hb3)
   | (go_at_call 204;refine KP1.mono ?_;clear KP1;rintro e w4 ⟨rfl,hT4,hb4⟩;have t0:=(hb4.cell (p:=⟨bb,0,none⟩) hl3 hb0).trans s0;have t2:=(hb4.cell (p:=⟨bb,2,none⟩) hl3 hb0).trans s2;have t7:=(hb4.cell (p:=⟨bb,7,none⟩) hl3 hb0).trans s7;have t8:=(hb4.cell (p:=⟨bb,8,none⟩) hl3 hb0).trans s8;have u0:=(hb4.cell (p:=⟨bb+1,0,none⟩) hl4 hb1).trans r0;have u1:=(hb4.cell (p:=⟨bb+1,1,none⟩) hl4 hb1).trans r1))
 go_wp2_with fail
 go_ret
 exact⟨rfl,FH.out w3 w4 hb3 hT4 hb4⟩
end
end Go.Proofs.YtcjdoeclblhaeaaGreatDoor.Pa
namespace Go.Proofs.YtcjdoeclblhaeaaGreatDoor.Pa
open Go.RowKit Go.Maps Vs
section
variable {T:Td} {w:World} {F:Nat->Prop} {B:Nat} {d:Dk}
theorem plPutAddr (V:DFace T) (c:Cl) (i:Int) (q:Int) (h:Ds T w F B d) (ok:OkD d) (sm:Sm d) (hn:c.nm.size<=1000) (how:c.ow.size<=maxLen) (q0:0<=q) (q1:q<=4294967295) :
  Calls Tryz.prog 216 #[wkV B c i,(.int .i64 q)] w fun e w'=>e=.returned (ev (dcF d i ⟨kA c.nm q,c.ow,false⟩))/\Dj T F w w' B (dcD d i ⟨kA c.nm q,c.ow,false⟩):=by
 obtain⟨W,hW⟩:∃ W,W=w.alloc (.cells (wkA B c i) 188):=⟨_,rfl⟩
 have bW:Below w.heap.size w W:=by rw[hW];exact below_al (below_self w) _
 have wk:Wk W w.heap.size B c i:=by rw[hW];exact Wk.new w B c i 188
 have hW1:=h.step V bW
 have KK:=plAddrKey c.nm q W.drew (hW1.en.step (below_self W).drew).tab hn q0 q1
 have KP:=fun w1 (b1:Below W.drew.heap.size W.drew w1)=>V.put i (kA c.nm q) c.ow (hW1.step V (below_via (below_self W).drew b1)).t ok sm (hW1.step V (below_via (below_self W).drew b1)).lt (by rw[kA_size];unfold maxLen;omega) how
 have hkk:(⟨(Bur.adrK c.nm.data.toList q).toArray⟩:ByteArray)=kA c.nm q:=rfl
 rw[hkk] at KK
 have fin:=fun w1 w2 (b1:Below W.drew.heap.size W.drew w1) hT hb=>Dj.box V h (d':=dcD d i ⟨kA c.nm q,c.ow,false⟩) (below_via bW (below_via (below_self W).drew b1)) (w2:=w2) hT hb
 have FH:Hid _:=fin
 have hbx:∀ (j:Nat),w.heap.size<=j -> ¬ F j:=fun j hj q=>by have:=h.lt j q;omega
 have k0:=wk.c0
 have k2:=wk.c2
 have k7:=wk.c7
 have k8:=wk.c8
 have hlb:=wk.lt
 obtain⟨bb,hbb⟩:∃ bb,bb=w.heap.size:=⟨_,rfl⟩
 rw[<- hbb] at k0 k2 k7 k8 hlb
 have hb0:=hbx bb (by omega)
 clear fin wk hW1 hkk hbx
 generalize kA c.nm q=KY at KK KP FH ⊢
 go_enter Tryz.func216,Tryz.ntmps216
 go_wp2_with fail
 rw[<- hW,<- hbb]
 clear hW bW hbb
 go_region_held3 (fun wy=>wy.cell? ⟨bb,0,none⟩=some (.pointer (some ⟨B,0,none⟩))/\wy.cell? ⟨bb,2,none⟩=some (.string c.nm)/\wy.cell? ⟨bb,7,none⟩=some (.string c.ow)/\wy.cell? ⟨bb,8,none⟩=some (.int .i64 i))
  (first|exact⟨t0,t2,t7,t8⟩|exact⟨s0,s2,s7,s8⟩|exact⟨k0,k2,k7,k8⟩)
  (first
   | (go_at_call 215;refine KK.mono ?_;clear KK;rintro e w3 ⟨rfl,hb3⟩;have s0:=(hb3.cell (p:=⟨bb,0,none⟩) hlb).trans k0;have s2:=(hb3.cell (p:=⟨bb,2,none⟩) hlb).trans k2;have s7:=(hb3.cell (p:=⟨bb,7,none⟩) hlb).trans k7;have s8:=(hb3.cell (p:=⟨bb,8,none⟩) hlb).trans k8;have hl3:bb<w3.heap.size:=Nat.lt_of_lt_of_le hlb hb3.size;have KP1:=KP w3 hb3)
   | (go_at_call 204;refine KP1.mono ?_;clear KP1;rintro e w4 ⟨rfl,hT4,hb4⟩;have t0:=(hb4.cell (p:=⟨bb,0,none⟩) hl3 hb0).trans s0;have t2:=(hb4.cell (p:=⟨bb,2,none⟩) hl3 hb0).trans s2;have t7:=(hb4.cell (p:=⟨bb,7,none⟩) hl3 hb0).trans s7;have t8:=(hb4.cell (p:=⟨bb,8,none⟩) hl3 hb0).trans s8))
 go_wp2_with fail
 go_ret
 exact⟨rfl,FH.out w3 w4 hb3 hT4 hb4⟩
theorem plNetPut (V:DFace T) (c:Cl) (i:Int) (h:Ds T w F B d) (ok:OkD d) (sm:Sm d) (hn:c.nm.size<=1000) (how:c.ow.size<=maxLen) :
  Calls Tryz.prog 164 #[wkV B c i,.bool false] w fun e w'=>e=.returned (ev (dcF d i ⟨kN c.nm,c.ow,false⟩))/\Dj T F w w' B (dcD d i ⟨kN c.nm,c.ow,false⟩):=by
 obtain⟨W,hW⟩:∃ W,W=w.alloc (.cells (wkA B c i) 188):=⟨_,rfl⟩
 have bW:Below w.heap.size w W:=by rw[hW];exact below_al (below_self w) _
 have wk:Wk W w.heap.size B c i:=by rw[hW];exact Wk.new w B c i 188
 have hW1:=h.step V bW
 have KK:=plNetKey c.nm W.drew hn
 have KP:=fun w1 (b1:Below W.drew.heap.size W.drew w1)=>V.put i (kN c.nm) c.ow (hW1.step V (below_via (below_self W).drew b1)).t ok sm (hW1.step V (below_via (below_self W).drew b1)).lt (by rw[kN_size];unfold maxLen;omega) how
 have hkk:(⟨(Bur.netK c.nm.data.toList).toArray⟩:ByteArray)=kN c.nm:=rfl
 rw[hkk] at KK
 have fin:=fun w1 w2 (b1:Below W.drew.heap.size W.drew w1) hT hb=>Dj.box V h (d':=dcD d i ⟨kN c.nm,c.ow,false⟩) (below_via bW (below_via (below_self W).drew b1)) (w2:=w2) hT hb
 have FH:Hid _:=fin
 have hbx:∀ (j:Nat),w.heap.size<=j -> ¬ F j:=fun j hj q=>by have:=h.lt j q;omega
 have k0:=wk.c0
 have k2:=wk.c2
 have k7:=wk.c7
 have k8:=wk.c8
 have hlb:=wk.lt
 obtain⟨bb,hbb⟩:∃ bb,bb=w.heap.size:=⟨_,rfl⟩
 rw[<- hbb] at k0 k2 k7 k8 hlb
 have hb0:=hbx bb (by omega)
 clear fin wk hW1 hkk hbx
 generalize kN c.nm=KY at KK KP FH ⊢
 go_enter Tryz.func164,Tryz.ntmps164
 go_wp2_with fail
 rw[<- hW,<- hbb]
 clear hW bW hbb
 go_region_held3 (fun wy=>wy.cell? ⟨bb,0,none⟩=some (.pointer (some ⟨B,0,none⟩))/\wy.cell? ⟨bb,2,none⟩=some (.string c.nm)/\wy.cell? ⟨bb,7,none⟩=some (.string c.ow)/\wy.cell? ⟨bb,8,none⟩=some (.int .i64 i))
  (first|exact⟨t0,t2,t7,t8⟩|exact⟨s0,s2,s7,s8⟩|exact⟨k0,k2,k7,k8⟩)
  (first
   | (go_at_call 68;refine KK.mono ?_;clear KK;rintro e w3 ⟨rfl,hw3⟩;have hb3:Below W.drew.heap.size W.drew w3:=(by rw[hw3];exact below_self _);clear hw3;have s0:=(hb3.cell (p:=⟨bb,0,none⟩) hlb).trans k0;have s2:=(hb3.cell (p:=⟨bb,2,none⟩) hlb).trans k2;have s7:=(hb3.cell (p:=⟨bb,7,none⟩) hlb).trans k7;have s8:=(hb3.cell (p:=⟨bb,8,none⟩) hlb).trans k8;have hl3:bb<w3.heap.size:=Nat.lt_of_lt_of_le hlb hb3.size;have KP1:=KP w3 hb3)
   | (go_at_call 204;refine KP1.mono ?_;clear KP1;rintro e w4 ⟨rfl,hT4,hb4⟩;have t0:=(hb4.cell (p:=⟨bb,0,none⟩) hl3 hb0).trans s0;have t2:=(hb4.cell (p:=⟨bb,2,none⟩) hl3 hb0).trans s2;have t7:=(hb4.cell (p:=⟨bb,7,none⟩) hl3 hb0).trans s7;have t8:=(hb4.cell (p:=⟨bb,8,none⟩) hl3 hb0).trans s8))
 go_wp2_with fail
 go_ret
 exact⟨rfl,FH.out w3 w4 hb3 hT4 hb4⟩
theorem plNetNo (V:DFace T) (c:Cl) (i:Int) (h:Ds T w F B d):Calls Tryz.prog 164 #[wkV B c i,.bool true] w fun e w'=>e=.returned (errN 6)/\Dj T F w w' B d:=by
 have bA:=below_al (below_self w) (.cells (wkA B c i) 188)
 have hA:=(Dj.refl h).step V bA
 go_enter Tryz.func164,Tryz.ntmps164
 go_wp2_with fail
 go_ret
 exact⟨rfl,hA⟩
end
end Go.Proofs.YtcjdoeclblhaeaaGreatDoor.Pa
namespace Vs
theorem wt_set {d:Dk} (h:OkD d) {o o':Ox} (ho:o∈d.op) (e:o'.id=o.id) (e2:o'.own=o.own):wt (opSet d o')=wt d:=by
 have key:wtO (opSet d o').op+o.own.length=wtO d.op+o'.own.length:=wtO_set h.ids (o':=o') ho e
 rw[e2] at key
 show wtL d.lg.ls+wtO (opSet d o').op=wtL d.lg.ls+wtO d.op
 omega
theorem wt_dg {d:Dk} (h:OkD d) (i:Int) (k:ByteArray):wt (dgD d i k)=wt d/\(dgD d i k).ids=d.ids:=by
 unfold dgD
 cases e:opI d i with
 | none=>exact⟨rfl,rfl⟩
 | some o=>
  obtain⟨h1,_⟩:=opI_some e
  simp only
  split
  ·split
   ·exact⟨rfl,rfl⟩
   ·exact⟨wt_set h h1 rfl rfl,rfl⟩
  ·exact⟨rfl,rfl⟩
theorem wt_dr {d:Dk} (h:OkD d) (i:Int) (lo hi:ByteArray):wt (drD d i lo hi)=wt d/\(drD d i lo hi).ids=d.ids:=by
 unfold drD
 cases e:opI d i with
 | none=>exact⟨rfl,rfl⟩
 | some o=>
  obtain⟨h1,_⟩:=opI_some e
  simp only
  split
  ·exact⟨rfl,rfl⟩
  ·exact⟨wt_set h h1 rfl rfl,rfl⟩
section
variable {d:Dk} {i:Int} {k v:ByteArray}
theorem asks_no {K:ByteArray->Bool->Pg} (h:dgF d i k=4):runF (asks k K) d i=runF (K ByteArray.empty false) (dgD d i k) i/\runD (asks k K) d i=runD (K ByteArray.empty false) (dgD d i k) i/\runA (asks k K) d i=runA (K ByteArray.empty false) (dgD d i k) i:=by
 unfold asks
 rw[runF,runD,runA,if_pos h]
 exact⟨rfl,rfl,rfl⟩
theorem asks_yes {K:ByteArray->Bool->Pg} (h:dgF d i k=0):runF (asks k K) d i=runF (K (dgS d i k) true) (dgD d i k) i/\runD (asks k K) d i=runD (K (dgS d i k) true) (dgD d i k) i/\runA (asks k K) d i=runA (K (dgS d i k) true) (dgD d i k) i:=by
 unfold asks
 rw[runF,runD,runA,if_neg (by rw[h];decide),if_pos h]
 exact⟨rfl,rfl,rfl⟩
theorem asks_err {K:ByteArray->Bool->Pg} (h4:dgF d i k≠4) (h0:dgF d i k≠0):runF (asks k K) d i=dgF d i k/\runD (asks k K) d i=dgD d i k/\runA (asks k K) d i=an0:=by
 unfold asks
 rw[runF,runD,runA,if_neg h4,if_neg h0]
 exact⟨rfl,rfl,rfl⟩
theorem puts_is (a:An):runF (puts k v a) d i=dcF d i ⟨k,v,false⟩/\runD (puts k v a) d i=dcD d i ⟨k,v,false⟩/\(dcF d i ⟨k,v,false⟩=0->runA (puts k v a) d i=a)/\(dcF d i ⟨k,v,false⟩≠0->runA (puts k v a) d i=an0):=by
 unfold puts
 rw[runF,runD,runA]
 by_cases h:dcF d i ⟨k,v,false⟩=0
 ·rw[if_pos h]
  exact⟨h.symm,rfl,fun _=>rfl,fun q=>absurd h q⟩
 ·rw[if_neg h]
  exact⟨rfl,rfl,fun q=>absurd q h,fun _=>rfl⟩
theorem drops_is:runF (drops k) d i=dcF d i ⟨k,ByteArray.empty,true⟩/\runD (drops k) d i=dcD d i ⟨k,ByteArray.empty,true⟩/\runA (drops k) d i=an0:=⟨rfl,rfl,rfl⟩
end
end Vs
namespace Go.Proofs.YtcjdoeclblhaeaaGreatDoor.Pa
open Go.RowKit Go.Maps Vs
section
variable {T:Td} {w:World} {F:Nat->Prop} {B:Nat} {d:Dk}
theorem Sm.dg (sm:Sm d) (ok:OkD d) (i:Int) (k:ByteArray):Sm (dgD d i k):=⟨by rw[(wt_dg ok i k).1];exact sm.wt,by rw[(wt_dg ok i k).2];exact sm.ids⟩
theorem Sm.dr (sm:Sm d) (ok:OkD d) (i:Int) (lo hi:ByteArray):Sm (drD d i lo hi):=⟨by rw[(wt_dr ok i lo hi).1];exact sm.wt,by rw[(wt_dr ok i lo hi).2];exact sm.ids⟩
theorem find_cases (i:Int) (k:ByteArray):(dgF d i k=4/\fnB d i k=false/\fnF d i k=0/\fnS d i k=ByteArray.empty) \/ (dgF d i k=0/\fnB d i k=true/\fnF d i k=0/\fnS d i k=dgS d i k) \/ (dgF d i k≠4/\dgF d i k≠0/\fnB d i k=false/\fnF d i k=dgF d i k):=by
 by_cases h4:dgF d i k=4
 ·exact .inl ⟨h4,by unfold fnB;rw[h4];rfl,if_pos h4,if_pos h4⟩
 ·by_cases h0:dgF d i k=0
  ·exact .inr (.inl ⟨h0,by unfold fnB;rw[h0];rfl,by rw[fnF,if_neg h4,h0],if_neg h4⟩)
  ·exact .inr (.inr ⟨h4,h0,by unfold fnB;simpa using h0,if_neg h4⟩)
theorem Dj.next {d1:Dk} {w1:World} (k:Dj T F w w1 B d1):∃ F1,Ds T w1 F1 B d1/\(∀ j,F1 j->Nw F w w1 j) /\ ∀ w2 d2,Dj T F1 w1 w2 B d2->Dj T F w w2 B d2:=by
 obtain⟨F1,h1,h2⟩:=k.ex
 exact⟨F1,h1,h2,fun w2 d2 q=>Dj.then k.bt h2 q⟩
theorem plAdd (V:DFace T) (c:Cl) (i:Int) (h:Ds T w F B d) (ok:OkD d) (sm:Sm d) (hn:c.nm.size<=1000) (how:c.ow.size<=maxLen) (q0:0<=c.p.1) (q1:c.p.1<=4294967295) (q2:0<=c.p.2) (q3:c.p.2<100) :
  Calls Tryz.prog 165 #[wkV B c i] w fun e w'=>e=.returned (ev (runF (pAdd c) d i))/\Dj T F w w' B (runD (pAdd c) d i):=by
 obtain⟨W,hW⟩:∃ W,W=w.alloc (.cells (wkA B c i) 188):=⟨_,rfl⟩
 have bW:Below w.heap.size w W:=by rw[hW];exact below_al (below_self w) _
 have wk:Wk W w.heap.size B c i:=by rw[hW];exact Wk.new w B c i 188
 have hW1:=h.step V bW
 have KK:=plPrefixKey c.nm c.p.1 c.p.2 W.drew (hW1.en.step (below_self W).drew).tab hn q0 q1 q2 q3
 have hkk:(⟨(Bur.pfxK c.nm.data.toList c.p.1 c.p.2).toArray⟩:ByteArray)=kP c.nm c.p:=rfl
 rw[hkk] at KK
 have KF:=fun w3 (b3:Below W.drew.heap.size W.drew w3)=>plFind V c i (kP c.nm c.p) (hW1.step V (below_via (below_self W).drew b3)) ok sm (by rw[kP_size];unfold maxLen;omega)
 have base:∀ w3,Below W.drew.heap.size W.drew w3 -> ∀ {w4 d'},Dj T F w3 w4 B d'->Dj T F w w4 B d':=fun w3 b3 _ _ k=>Dj.then (F1:=F) (.below (below_via bW (below_via (below_self W).drew b3))) (fun _ hj=>.inl hj) k
 have hbx:¬ F w.heap.size:=fun q=>by have:=h.lt _ q;omega
 obtain⟨bb,hbb⟩:∃ bb,bb=w.heap.size:=⟨_,rfl⟩
 rw[<- hbb] at wk hbx
 have hlb:=wk.lt
 obtain⟨k0,k1,k2,k3,k4,k5,k6,k7,k8⟩:=wk
 have okg:=ok.dg i (kP c.nm c.p)
 have smg:=Sm.dg sm ok i (kP c.nm c.p)
 rcases find_cases (d:=d) i (kP c.nm c.p) with ⟨f1,f2,f3,f4⟩|⟨f1,f2,f3,f4⟩|⟨f0,f1,f2,f3⟩
 ·obtain⟨a1,a2,_⟩:=asks_no (d:=d) (i:=i) (k:=kP c.nm c.p) (K:=fun _ is=>if is=true then err 6 else puts (kP c.nm c.p) c.ow an0) f1
  obtain⟨p1,p2,_⟩:=puts_is (d:=dgD d i (kP c.nm c.p)) (i:=i) (k:=kP c.nm c.p) (v:=c.ow) an0
  have E1:Hid (runF (pAdd c) d i=dcF (dgD d i (kP c.nm c.p)) i ⟨kP c.nm c.p,c.ow,false⟩):=a1.trans p1
  have E2:Hid (runD (pAdd c) d i=dcD (dgD d i (kP c.nm c.p)) i ⟨kP c.nm c.p,c.ow,false⟩):=a2.trans p2
  rw[f2,f3,f4,ev_0] at KF
  have KP:=fun w4 (F4:Nat->Prop) (h4:Ds T w4 F4 B (dgD d i (kP c.nm c.p)))=>plPutPrefix V c i c.p h4 okg smg hn how q0 q1 q2 q3
  clear a1 a2 p1 p2 f1 f2 f3 f4 hkk hW1
  go_enter Tryz.func165,Tryz.ntmps165
  go_wp2_with fail
  rw[<- hW,<- hbb]
  clear hW bW hbb
  go_region_held3 (fun wy=>wy.cell? ⟨bb,0,none⟩=some (.pointer (some ⟨B,0,none⟩))/\wy.cell? ⟨bb,1,none⟩=some (.int .i64 c.what)/\wy.cell? ⟨bb,2,none⟩=some (.string c.nm)/\wy.cell? ⟨bb,3,none⟩=some (.int .i64 c.p.1)/\wy.cell? ⟨bb,4,none⟩=some (.int .i64 c.p.2)/\wy.cell? ⟨bb,5,none⟩=some (.int .i64 c.len)/\wy.cell? ⟨bb,6,none⟩=some (.int .i64 c.ad)/\wy.cell? ⟨bb,7,none⟩=some (.string c.ow)/\wy.cell? ⟨bb,8,none⟩=some (.int .i64 i))
   (first|exact⟨wk4.c0,wk4.c1,wk4.c2,wk4.c3,wk4.c4,wk4.c5,wk4.c6,wk4.c7,wk4.c8⟩|exact⟨wk3.c0,wk3.c1,wk3.c2,wk3.c3,wk3.c4,wk3.c5,wk3.c6,wk3.c7,wk3.c8⟩|exact⟨k0,k1,k2,k3,k4,k5,k6,k7,k8⟩)
   (first
    | (go_at_call 205;refine KK.mono ?_;clear KK;rintro e w3 ⟨rfl,hb3⟩;have wk3:Wk w3 bb B c i:=(Wk.mk (w:=W) k0 k1 k2 k3 k4 k5 k6 k7 k8).step (below_via (below_self W).drew hb3);have KF1:=KF w3 hb3)
    | (go_at_call 163;refine KF1.mono ?_;clear KF1;rintro e w4 ⟨rfl,hj4⟩;have wk4:Wk w4 bb B c i:=wk3.but hj4.bt hbx))
  have bj:=base w3 hb3 hj4
  obtain⟨F4,h4,hF4,nx4⟩:=Dj.next bj
  have KP1:=KP w4 F4 h4
  obtain⟨m0,m1,m2,m3,m4,m5,m6,m7,m8⟩:=wk4
  clear k0 k1 k2 k3 k4 k5 k6 k7 k8 wk3 KF KP bj
  go_wp2_with (go_at_call 206;refine KP1.mono ?_;clear KP1;rintro e w5 ⟨rfl,hj5⟩)
  go_ret
  exact⟨by rw[E1.out];rfl,by rw[E2.out];exact nx4 _ _ hj5⟩
 ·obtain⟨a1,a2,_⟩:=asks_yes (d:=d) (i:=i) (k:=kP c.nm c.p) (K:=fun _ is=>if is=true then err 6 else puts (kP c.nm c.p) c.ow an0) f1
  have E1:Hid (runF (pAdd c) d i=6):=a1
  have E2:Hid (runD (pAdd c) d i=dgD d i (kP c.nm c.p)):=a2
  rw[f2,f3,ev_0] at KF
  generalize fnS d i (kP c.nm c.p)=SS at KF
  clear a1 a2 f1 f2 f3 f4 hkk hW1
  go_enter Tryz.func165,Tryz.ntmps165
  go_wp2_with fail
  rw[<- hW,<- hbb]
  clear hW bW hbb
  go_region_held3 (fun wy=>wy.cell? ⟨bb,0,none⟩=some (.pointer (some ⟨B,0,none⟩))/\wy.cell? ⟨bb,1,none⟩=some (.int .i64 c.what)/\wy.cell? ⟨bb,2,none⟩=some (.string c.nm)/\wy.cell? ⟨bb,3,none⟩=some (.int .i64 c.p.1)/\wy.cell? ⟨bb,4,none⟩=some (.int .i64 c.p.2)/\wy.cell? ⟨bb,5,none⟩=some (.int .i64 c.len)/\wy.cell? ⟨bb,6,none⟩=some (.int .i64 c.ad)/\wy.cell? ⟨bb,7,none⟩=some (.string c.ow)/\wy.cell? ⟨bb,8,none⟩=some (.int .i64 i))
   (first|exact⟨wk4.c0,wk4.c1,wk4.c2,wk4.c3,wk4.c4,wk4.c5,wk4.c6,wk4.c7,wk4.c8⟩|exact⟨wk3.c0,wk3.c1,wk3.c2,wk3.c3,wk3.c4,wk3.c5,wk3.c6,wk3.c7,wk3.c8⟩|exact⟨k0,k1,k2,k3,k4,k5,k6,k7,k8⟩)
   (first
    | (go_at_call 205;refine KK.mono ?_;clear KK;rintro e w3 ⟨rfl,hb3⟩;have wk3:Wk w3 bb B c i:=(Wk.mk (w:=W) k0 k1 k2 k3 k4 k5 k6 k7 k8).step (below_via (below_self W).drew hb3);have KF1:=KF w3 hb3)
    | (go_at_call 163;refine KF1.mono ?_;clear KF1;rintro e w4 ⟨rfl,hj4⟩;have wk4:Wk w4 bb B c i:=wk3.but hj4.bt hbx))
  have bj:=base w3 hb3 hj4
  clear k0 k1 k2 k3 k4 k5 k6 k7 k8 wk3 wk4 KF
  go_wp2_with fail
  go_ret
  exact⟨by rw[E1.out];rfl,by rw[E2.out];exact bj⟩
 ·obtain⟨a1,a2,_⟩:=asks_err (d:=d) (i:=i) (k:=kP c.nm c.p) (K:=fun _ is=>if is=true then err 6 else puts (kP c.nm c.p) c.ow an0) f0 f1
  have E1:Hid (ev (runF (pAdd c) d i)=errN (dgF d i (kP c.nm c.p))):=(congrArg ev a1).trans (ev_ne f1)
  have E2:Hid (runD (pAdd c) d i=dgD d i (kP c.nm c.p)):=a2
  rw[f2,f3,ev_ne f1] at KF
  generalize fnS d i (kP c.nm c.p)=SS at KF
  clear a1 a2 f0 f1 f2 f3 hkk hW1
  go_enter Tryz.func165,Tryz.ntmps165
  go_wp2_with fail
  rw[<- hW,<- hbb]
  clear hW bW hbb
  go_region_held3 (fun wy=>wy.cell? ⟨bb,0,none⟩=some (.pointer (some ⟨B,0,none⟩))/\wy.cell? ⟨bb,1,none⟩=some (.int .i64 c.what)/\wy.cell? ⟨bb,2,none⟩=some (.string c.nm)/\wy.cell? ⟨bb,3,none⟩=some (.int .i64 c.p.1)/\wy.cell? ⟨bb,4,none⟩=some (.int .i64 c.p.2)/\wy.cell? ⟨bb,5,none⟩=some (.int .i64 c.len)/\wy.cell? ⟨bb,6,none⟩=some (.int .i64 c.ad)/\wy.cell? ⟨bb,7,none⟩=some (.string c.ow)/\wy.cell? ⟨bb,8,none⟩=some (.int .i64 i))
   (first|exact⟨wk4.c0,wk4.c1,wk4.c2,wk4.c3,wk4.c4,wk4.c5,wk4.c6,wk4.c7,wk4.c8⟩|exact⟨wk3.c0,wk3.c1,wk3.c2,wk3.c3,wk3.c4,wk3.c5,wk3.c6,wk3.c7,wk3.c8⟩|exact⟨k0,k1,k2,k3,k4,k5,k6,k7,k8⟩)
   (first
    | (go_at_call 205;refine KK.mono ?_;clear KK;rintro e w3 ⟨rfl,hb3⟩;have wk3:Wk w3 bb B c i:=(Wk.mk (w:=W) k0 k1 k2 k3 k4 k5 k6 k7 k8).step (below_via (below_self W).drew hb3);have KF1:=KF w3 hb3)
    | (go_at_call 163;refine KF1.mono ?_;clear KF1;rintro e w4 ⟨rfl,hj4⟩;have wk4:Wk w4 bb B c i:=wk3.but hj4.bt hbx))
  have bj:=base w3 hb3 hj4
  clear k0 k1 k2 k3 k4 k5 k6 k7 k8 wk3 wk4 KF
  go_wp2_with fail
  go_ret
  exact⟨by rw[E1.out];rfl,by rw[E2.out];exact bj⟩
end
end Go.Proofs.YtcjdoeclblhaeaaGreatDoor.Pa
namespace Vs
theorem allL_yes {d:Dk} {i:Int} {n:ByteArray} {K:List Lot->Pg} (h:drF d i=0):runF (allL n K) d i=runF (K (lots (drS d i (loK 112 n) (heK 112 n)))) (drD d i (loK 112 n) (heK 112 n)) i/\runD (allL n K) d i=runD (K (lots (drS d i (loK 112 n) (heK 112 n)))) (drD d i (loK 112 n) (heK 112 n)) i/\runA (allL n K) d i=runA (K (lots (drS d i (loK 112 n) (heK 112 n)))) (drD d i (loK 112 n) (heK 112 n)) i:=by
 unfold allL
 rw[runF,runD,runA,if_pos h]
 exact⟨rfl,rfl,rfl⟩
theorem allL_no {d:Dk} {i:Int} {n:ByteArray} {K:List Lot->Pg} (h:drF d i≠0):runF (allL n K) d i=drF d i/\runD (allL n K) d i=drD d i (loK 112 n) (heK 112 n)/\runA (allL n K) d i=an0:=by
 unfold allL
 rw[runF,runD,runA,if_neg h]
 exact⟨rfl,rfl,rfl⟩
theorem allA_yes {d:Dk} {i:Int} {n:ByteArray} {K:List Int->Pg} (h:drF d i=0):runF (allA n K) d i=runF (K (plcd (drS d i (loK 97 n) (heK 97 n)))) (drD d i (loK 97 n) (heK 97 n)) i/\runD (allA n K) d i=runD (K (plcd (drS d i (loK 97 n) (heK 97 n)))) (drD d i (loK 97 n) (heK 97 n)) i/\runA (allA n K) d i=runA (K (plcd (drS d i (loK 97 n) (heK 97 n)))) (drD d i (loK 97 n) (heK 97 n)) i:=by
 unfold allA
 rw[runF,runD,runA,if_pos h]
 exact⟨rfl,rfl,rfl⟩
theorem allA_no {d:Dk} {i:Int} {n:ByteArray} {K:List Int->Pg} (h:drF d i≠0):runF (allA n K) d i=drF d i/\runD (allA n K) d i=drD d i (loK 97 n) (heK 97 n)/\runA (allA n K) d i=an0:=by
 unfold allA
 rw[runF,runD,runA,if_neg h]
 exact⟨rfl,rfl,rfl⟩
end Vs
namespace Go.Proofs.YtcjdoeclblhaeaaGreatDoor.Pa
open Go.RowKit Go.Maps Vs
section
variable {T:Td} {w:World} {F:Nat->Prop} {B:Nat} {d:Dk}
theorem plLeave (V:DFace T) (c:Cl) (i:Int) (h:Ds T w F B d) (ok:OkD d) (sm:Sm d) (hn:c.nm.size<=1000) (q0:0<=c.ad) (q1:c.ad<=4294967295) :
  Calls Tryz.prog 168 #[wkV B c i] w fun e w'=>e=.returned (ev (runF (pLeave c) d i))/\Dj T F w w' B (runD (pLeave c) d i):=by
 obtain⟨W,hW⟩:∃ W,W=w.alloc (.cells (wkA B c i) 188):=⟨_,rfl⟩
 have bW:Below w.heap.size w W:=by rw[hW];exact below_al (below_self w) _
 have wk:Wk W w.heap.size B c i:=by rw[hW];exact Wk.new w B c i 188
 have hW1:=h.step V bW
 have KK:=plAddrKey c.nm c.ad W hW1.en.tab hn q0 q1
 have hkk:(⟨(Bur.adrK c.nm.data.toList c.ad).toArray⟩:ByteArray)=kA c.nm c.ad:=rfl
 rw[hkk] at KK
 have hks:(kA c.nm c.ad).size<=maxLen:=by rw[kA_size];unfold maxLen;omega
 have KF:=fun w3 (b3:Below W.heap.size W w3)=>plFind V c i (kA c.nm c.ad) (hW1.step V b3) ok sm hks
 have base:∀ w3,Below W.heap.size W w3 -> ∀ {w4 d'},Dj T F w3 w4 B d'->Dj T F w w4 B d':=fun w3 b3 _ _ k=>Dj.then (F1:=F) (.below (below_via bW b3)) (fun _ hj=>.inl hj) k
 have hbx:¬ F w.heap.size:=fun q=>by have:=h.lt _ q;omega
 have okg:=ok.dg i (kA c.nm c.ad)
 have smg:=Sm.dg sm ok i (kA c.nm c.ad)
 have fx:=find_cases (d:=d) i (kA c.nm c.ad)
 have ano:=asks_no (d:=d) (i:=i) (k:=kA c.nm c.ad) (K:=fun _ is=>if is=true then drops (kA c.nm c.ad) else err 4)
 have ayes:=asks_yes (d:=d) (i:=i) (k:=kA c.nm c.ad) (K:=fun _ is=>if is=true then drops (kA c.nm c.ad) else err 4)
 have aerr:=asks_err (d:=d) (i:=i) (k:=kA c.nm c.ad) (K:=fun _ is=>if is=true then drops (kA c.nm c.ad) else err 4)
 obtain⟨k0,k1,k2,k3,k4,k5,k6,k7,k8⟩:=wk
 have hlb:w.heap.size<W.heap.size:=World.block_lt_of_cell? _ _ k0
 rw[hW] at k0 k1 k2 k3 k4 k5 k6 k7 k8
 clear hkk hW1
 rcases fx with ⟨f1,f2,f3,f4⟩|⟨f1,f2,f3,f4⟩|⟨f0,f1,f2,f3⟩
 ·obtain⟨a1,a2,_⟩:=ano f1
  have E1:Hid (runF (pLeave c) d i=4):=a1
  have E2:Hid (runD (pLeave c) d i=dgD d i (kA c.nm c.ad)):=a2
  rw[f2,f3,ev_0] at KF
  generalize fnS d i (kA c.nm c.ad)=SS at KF
  clear a1 a2 f1 f2 f3 f4 ano ayes aerr
  go_enter Tryz.func168,Tryz.ntmps168
  go_wp2_with (first
   | (go_at_call 215;rw[<- hW];refine KK.mono ?_;clear KK;rintro e w3 ⟨rfl,hb3⟩;obtain⟨m0,m1,m2,m3,m4,m5,m6,m7,m8⟩:Wk w3 w.heap.size B c i:=(Wk.mk (w:=W) (by rw[hW];exact k0) (by rw[hW];exact k1) (by rw[hW];exact k2) (by rw[hW];exact k3) (by rw[hW];exact k4) (by rw[hW];exact k5) (by rw[hW];exact k6) (by rw[hW];exact k7) (by rw[hW];exact k8)).step hb3;have KF1:=KF w3 hb3)
   | (go_at_call 163;refine KF1.mono ?_;clear KF1;rintro e w4 ⟨rfl,hj4⟩))
  go_ret
  exact⟨by rw[E1.out];rfl,by rw[E2.out];exact base w3 hb3 hj4⟩
 ·obtain⟨a1,a2,_⟩:=ayes f1
  have E1:Hid (runF (pLeave c) d i=dcF (dgD d i (kA c.nm c.ad)) i ⟨kA c.nm c.ad,ByteArray.empty,true⟩):=a1
  have E2:Hid (runD (pLeave c) d i=dcD (dgD d i (kA c.nm c.ad)) i ⟨kA c.nm c.ad,ByteArray.empty,true⟩):=a2
  rw[f2,f3,ev_0] at KF
  generalize fnS d i (kA c.nm c.ad)=SS at KF
  have KD:=fun w4 (F4:Nat->Prop) (h4:Ds T w4 F4 B (dgD d i (kA c.nm c.ad)))=>V.drop i (kA c.nm c.ad) h4.t okg smg h4.lt hks
  clear a1 a2 f1 f2 f3 f4 ano ayes aerr
  go_enter Tryz.func168,Tryz.ntmps168
  go_wp2_with (first
   | (go_at_call 215;rw[<- hW];refine KK.mono ?_;clear KK;rintro e w3 ⟨rfl,hb3⟩;have wk3:Wk w3 w.heap.size B c i:=(Wk.mk (w:=W) (by rw[hW];exact k0) (by rw[hW];exact k1) (by rw[hW];exact k2) (by rw[hW];exact k3) (by rw[hW];exact k4) (by rw[hW];exact k5) (by rw[hW];exact k6) (by rw[hW];exact k7) (by rw[hW];exact k8)).step hb3;have m0:=wk3.c0;have m1:=wk3.c1;have m2:=wk3.c2;have m3:=wk3.c3;have m4:=wk3.c4;have m5:=wk3.c5;have m6:=wk3.c6;have m7:=wk3.c7;have m8:=wk3.c8;have KF1:=KF w3 hb3)
   | (go_at_call 163;refine KF1.mono ?_;clear KF1;rintro e w4 ⟨rfl,hj4⟩;have wk4:Wk w4 w.heap.size B c i:=wk3.but hj4.bt hbx;have n0:=wk4.c0;have n8:=wk4.c8;obtain⟨F4,h4,hF4,nx4⟩:=Dj.next (base w3 hb3 hj4);have KD1:=KD w4 F4 h4)
   | (go_at_call 214;refine KD1.mono ?_;clear KD1;rintro e w5 ⟨rfl,hT5,hb5⟩))
  go_ret
  exact⟨by rw[E1.out];rfl,by rw[E2.out];exact nx4 _ _ (Dj.of h4 hT5 (fun _ hj=>hj) hb5)⟩
 ·obtain⟨a1,a2,_⟩:=aerr f0 f1
  have E1:Hid (ev (runF (pLeave c) d i)=errN (dgF d i (kA c.nm c.ad))):=(congrArg ev a1).trans (ev_ne f1)
  have E2:Hid (runD (pLeave c) d i=dgD d i (kA c.nm c.ad)):=a2
  rw[f2,f3,ev_ne f1] at KF
  generalize fnS d i (kA c.nm c.ad)=SS at KF
  clear a1 a2 f0 f1 f2 f3 ano ayes aerr
  go_enter Tryz.func168,Tryz.ntmps168
  go_wp2_with (first
   | (go_at_call 215;rw[<- hW];refine KK.mono ?_;clear KK;rintro e w3 ⟨rfl,hb3⟩;obtain⟨m0,m1,m2,m3,m4,m5,m6,m7,m8⟩:Wk w3 w.heap.size B c i:=(Wk.mk (w:=W) (by rw[hW];exact k0) (by rw[hW];exact k1) (by rw[hW];exact k2) (by rw[hW];exact k3) (by rw[hW];exact k4) (by rw[hW];exact k5) (by rw[hW];exact k6) (by rw[hW];exact k7) (by rw[hW];exact k8)).step hb3;have KF1:=KF w3 hb3)
   | (go_at_call 163;refine KF1.mono ?_;clear KF1;rintro e w4 ⟨rfl,hj4⟩))
  go_ret
  exact⟨by rw[E1.out];rfl,by rw[E2.out];exact base w3 hb3 hj4⟩
theorem plList (V:DFace T) (c:Cl) (i:Int) (h:Ds T w F B d) (ok:OkD d) (sm:Sm d) (hn:c.nm.size<=1000) :
  Calls Tryz.prog 171 #[wkV B c i] w fun e w'=>∃ u,e=.returned (.tuple #[u,ev (runF (pList c) d i)]) /\ ∃ F',Ds T w' F' B (runD (pList c) d i)/\(∀ j,F' j->Nw F w w' j)/\But F w w'/\w'.ownsRow w.heap.size 105 2 u (runA (pList c) d i).l.length (pfV (runA (pList c) d i).l) /\ ∀ j,u.ownBlock=some j -> ¬ F' j:=by
 obtain⟨W,hW⟩:∃ W,W=w.alloc (.cells (wkA B c i) 188):=⟨_,rfl⟩
 have bW:Below w.heap.size w W:=by rw[hW];exact below_al (below_self w) _
 have wk:Wk (w.alloc (.cells (wkA B c i) 188)) w.heap.size B c i:=Wk.new w B c i 188
 have hW1:=h.step V bW
 have KL:=plLots V c i hW1 ok sm hn
 obtain⟨k0,k1,k2,k3,k4,k5,k6,k7,k8⟩:=wk
 have hdl:=drS_len ok i (loK 112 c.nm) (heK 112 c.nm)
 have hwt:=sm.wt
 have hll:=lots_len (drS d i (loK 112 c.nm) (heK 112 c.nm))
 have sW:=bW.size
 by_cases h0:drF d i=0
 ·obtain⟨a1,a2,a3⟩:=allL_yes (n:=c.nm) (K:=fun l=>.ret ⟨(0,0),0,ByteArray.empty,l.map Prod.fst⟩ 0) h0
  have E1:Hid (runF (pList c) d i=0):=a1
  have E2:Hid (runD (pList c) d i=drD d i (loK 112 c.nm) (heK 112 c.nm)):=a2
  have E3:Hid ((runA (pList c) d i).l=(lots (drS d i (loK 112 c.nm) (heK 112 c.nm))).map Prod.fst):=congrArg An.l a3
  rw[h0,ev_0] at KL
  generalize lots (drS d i (loK 112 c.nm) (heK 112 c.nm))=LL at KL E3 hll
  clear a1 a2 a3 h0 hW1
  go_enter Tryz.func171,Tryz.ntmps171
  go_wp2_with (first
   | (go_at_call 207;rw[<- hW];refine KL.mono ?_;clear KL;rintro e w1 ⟨v,rfl,F1,h1,hF1,hb1,hrow,hsep⟩;obtain⟨p,cp,rfl,hlot⟩:=lot_own hrow;have KO:=plOfLots LL p cp w1 (by omega) hlot)
   | (go_at_call 220;refine KO.mono ?_;clear KO;rintro e w2 ⟨u,rfl,hu,hb2⟩))
  go_ret2
  have s1:=hb1.size
  have s2:=hb2.size
  refine⟨_,by rw[E1.out,ev_0];rfl,F1,by rw[E2.out];exact h1.step V hb2,fun j hj=>?_,((But.below bW:But F w W).trans hb1).step hb2,?_,fun j hj q=>?_⟩
  ·rcases hF1 j hj with g|g
   ·exact .inl g
   ·exact .inr ⟨by have:=g.1;omega,by have:=g.2;omega⟩
  ·rw[E3.out,List.length_map];exact ownMono (by omega) hu
  ·have:=(hu.lt j hj).1
   have:=h1.lt j q
   omega
 ·obtain⟨a1,a2,a3⟩:=allL_no (n:=c.nm) (K:=fun l=>.ret ⟨(0,0),0,ByteArray.empty,l.map Prod.fst⟩ 0) h0
  have E1:Hid (ev (runF (pList c) d i)=errN (drF d i)):=(congrArg ev a1).trans (ev_ne h0)
  have E2:Hid (runD (pList c) d i=drD d i (loK 112 c.nm) (heK 112 c.nm)):=a2
  have E3:Hid ((runA (pList c) d i).l=[]):=congrArg An.l a3
  rw[ev_ne h0] at KL
  clear a1 a2 a3 h0 hW1
  go_enter Tryz.func171,Tryz.ntmps171
  go_wp2_with (go_at_call 207;rw[<- hW];refine KL.mono ?_;clear KL;rintro e w1 ⟨v,rfl,F1,h1,hF1,hb1,hrow,hsep⟩)
  go_ret2
  have s1:=hb1.size
  refine⟨.slice none 0 0,by rw[E1.out];rfl,F1,by rw[E2.out];exact h1,fun j hj=>?_,(But.below bW:But F w W).trans hb1,by rw[E3.out];exact World.ownsRow_nil _ _ _ _,fun j hj=>(by cases hj)⟩
  rcases hF1 j hj with g|g
  ·exact .inl g
  ·exact .inr ⟨by have:=g.1;omega,g.2⟩
end
end Go.Proofs.YtcjdoeclblhaeaaGreatDoor.Pa
namespace Go.Proofs.YtcjdoeclblhaeaaGreatDoor.Pa
open Go.RowKit Go.Maps Vs
section
variable {T:Td} {w:World} {F:Nat->Prop} {B:Nat} {d:Dk}
theorem LotAt.but {E:Nat->Prop} {w w':World} {p:Option Addr} {l:List Lot} {n c:Nat} (h:LotAt w p l) (hb:But E w w') (hE:∀ j,(Value.slice p n c).ownBlock=some j -> ¬ E j):LotAt w' p l:=fun hl=>by
 obtain⟨b,off,rfl,hlt,hc⟩:=h hl
 have hn:=hE b rfl
 refine⟨b,off,rfl,Nat.lt_of_lt_of_le hlt hb.size,fun i o ho=>?_⟩
 rw[hb.cell (p:=⟨b,off+i*3,none⟩) hlt hn,hb.cell (p:=⟨b,off+i*3+1,none⟩) hlt hn,hb.cell (p:=⟨b,off+i*3+2,none⟩) hlt hn]
 exact hc i o ho
theorem plPlace (V:DFace T) (c:Cl) (i:Int) (h:Ds T w F B d) (ok:OkD d) (sm:Sm d) (hn:c.nm.size<=1000) (how:c.ow.size<=maxLen) (q0:0<=c.ad) (q1:c.ad<=4294967295) :
  Calls Tryz.prog 167 #[wkV B c i] w fun e w'=>e=.returned (ev (runF (pPlace c) d i))/\Dj T F w w' B (runD (pPlace c) d i):=by
 obtain⟨W,hW⟩:∃ W,W=w.alloc (.cells (wkA B c i) 188):=⟨_,rfl⟩
 have bW:Below w.heap.size w W:=by rw[hW];exact below_al (below_self w) _
 have wkW:Wk W w.heap.size B c i:=by rw[hW];exact Wk.new w B c i 188
 have wk:Wk (w.alloc (.cells (wkA B c i) 188)) w.heap.size B c i:=Wk.new w B c i 188
 have hW1:=h.step V bW
 have KL:=plLots V c i hW1 ok sm hn
 obtain⟨k0,k1,k2,k3,k4,k5,k6,k7,k8⟩:=wk
 have hdl:=drS_len ok i (loK 112 c.nm) (heK 112 c.nm)
 have hwt:=sm.wt
 have hll:=lots_len (drS d i (loK 112 c.nm) (heK 112 c.nm))
 have sW:=bW.size
 have hbx:¬ F w.heap.size:=fun q=>by have:=h.lt _ q;omega
 have hks:(kA c.nm c.ad).size<=maxLen:=by rw[kA_size];unfold maxLen;omega
 have D1:∀ w1 F1,Ds T w1 F1 B (drD d i (loK 112 c.nm) (heK 112 c.nm))->(∀ j,F1 j->Nw F W w1 j)->But F W w1->Dj T F w w1 B (drD d i (loK 112 c.nm) (heK 112 c.nm))/\(∀ w2 d2,Dj T F1 w1 w2 B d2->Dj T F w w2 B d2) /\ ¬ F1 w.heap.size:=fun w1 F1 h1 hF1 hb1=>by
  have s1:=hb1.size
  have hF2:∀ j,F1 j->Nw F w w1 j:=fun j hj=>(hF1 j hj).elim .inl (fun g=>.inr ⟨by have:=g.1;omega,g.2⟩)
  have hbt:But F w w1:=(But.below bW:But F w W).trans hb1
  exact⟨⟨⟨F1,h1,hF2⟩,hbt⟩,fun w2 d2 q=>Dj.then hbt hF2 q,fun q=>(hF1 _ q).elim hbx (fun g=>by have:=g.1;have:=wkW.lt;omega)⟩
 by_cases h0:drF d i=0
 ·obtain⟨a1,a2,_⟩:=allL_yes (d:=d) (i:=i) (n:=c.nm) (K:=fun l=>asks (kA c.nm c.ad) fun _ is=>if hav l c.ad=[] then err 7 else if is=true then err 6 else puts (kA c.nm c.ad) c.ow an0) h0
  rw[h0,ev_0] at KL
  have okr:=ok.dr i (loK 112 c.nm) (heK 112 c.nm)
  have smr:=Sm.dr sm ok i (loK 112 c.nm) (heK 112 c.nm)
  generalize drD d i (loK 112 c.nm) (heK 112 c.nm)=d1 at KL a1 a2 D1 okr smr
  generalize lots (drS d i (loK 112 c.nm) (heK 112 c.nm))=LL at KL a1 a2 hll
  have A1:Hid (runF (pPlace c) d i=_):=a1
  have A2:Hid (runD (pPlace c) d i=_):=a2
  have KK:=fun w1 F1 (h1:Ds T w1 F1 B d1)=>plAddrKey c.nm c.ad w1.drew (h1.en.step (below_self w1).drew).tab hn q0 q1
  have hkk:(⟨(Bur.adrK c.nm.data.toList c.ad).toArray⟩:ByteArray)=kA c.nm c.ad:=rfl
  rw[hkk] at KK
  have KF:=fun w3 F1 (h3:Ds T w3 F1 B d1)=>plFind V c i (kA c.nm c.ad) h3 okr smr hks
  have okg:=okr.dg i (kA c.nm c.ad)
  have smg:=Sm.dg smr okr i (kA c.nm c.ad)
  have KH:=fun p cp w4 (hp:LotAt w4 p LL)=>plHaving LL c.ad p cp w4 (by omega) hp
  have KP:=fun w4 F4 (h4:Ds T w4 F4 B (dgD d1 i (kA c.nm c.ad)))=>plPutAddr V c i c.ad h4 okg smg hn how q0 q1
  have fx:=find_cases (d:=d1) i (kA c.nm c.ad)
  have ano:=asks_no (d:=d1) (i:=i) (k:=kA c.nm c.ad) (K:=fun _ is=>if hav LL c.ad=[] then err 7 else if is=true then err 6 else puts (kA c.nm c.ad) c.ow an0)
  have ayes:=asks_yes (d:=d1) (i:=i) (k:=kA c.nm c.ad) (K:=fun _ is=>if hav LL c.ad=[] then err 7 else if is=true then err 6 else puts (kA c.nm c.ad) c.ow an0)
  have aerr:=asks_err (d:=d1) (i:=i) (k:=kA c.nm c.ad) (K:=fun _ is=>if hav LL c.ad=[] then err 7 else if is=true then err 6 else puts (kA c.nm c.ad) c.ow an0)
  clear a1 a2 h0 hW1 hkk okr smr okg smg
  rcases fx with ⟨f1,f2,f3,f4⟩|⟨f1,f2,f3,f4⟩|⟨f0,f1,f2,f3⟩
  ·have ax:=ano f1
   by_cases hh:hav LL c.ad=[]
   ·have E1:Hid (runF (pPlace c) d i=7):=A1.out.trans (ax.1.trans (by rw[if_pos hh];rfl))
    have E2:Hid (runD (pPlace c) d i=dgD d1 i (kA c.nm c.ad)):=A2.out.trans (ax.2.1.trans (by rw[if_pos hh];rfl))
    rw[f2,f3,ev_0] at KF
    generalize fnS d1 i (kA c.nm c.ad)=SS at KF
    have KH2:=fun p cp w4 hp=>KH p cp w4 hp
    rw[hh] at KH2
    clear f1 f2 f3 f4 ano ayes aerr KP KH hh ax
    go_enter Tryz.func167,Tryz.ntmps167
    go_wp2_with (go_at_call 207;rw[<- hW];refine KL.mono ?_;clear KL;rintro e w1 ⟨v,rfl,F1,h1,hF1,hb1,hrow,hsep⟩;obtain⟨dj1,nx1,hx1⟩:=D1 w1 F1 h1 hF1 hb1;have wk1:Wk w1 w.heap.size B c i:=wkW.but hb1 hbx;obtain⟨p,cp,rfl,hlot⟩:=lot_own hrow;have KK1:=KK w1 F1 h1)
    clear k0 k1 k2 k3 k4 k5 k6 k7 k8
    go_region_held3 (fun wy=>wy.cell? ⟨w.heap.size,0,none⟩=some (.pointer (some ⟨B,0,none⟩))/\wy.cell? ⟨w.heap.size,1,none⟩=some (.int .i64 c.what)/\wy.cell? ⟨w.heap.size,2,none⟩=some (.string c.nm)/\wy.cell? ⟨w.heap.size,3,none⟩=some (.int .i64 c.p.1)/\wy.cell? ⟨w.heap.size,4,none⟩=some (.int .i64 c.p.2)/\wy.cell? ⟨w.heap.size,5,none⟩=some (.int .i64 c.len)/\wy.cell? ⟨w.heap.size,6,none⟩=some (.int .i64 c.ad)/\wy.cell? ⟨w.heap.size,7,none⟩=some (.string c.ow)/\wy.cell? ⟨w.heap.size,8,none⟩=some (.int .i64 i))
     (first|exact⟨wk4.c0,wk4.c1,wk4.c2,wk4.c3,wk4.c4,wk4.c5,wk4.c6,wk4.c7,wk4.c8⟩|exact⟨wk3.c0,wk3.c1,wk3.c2,wk3.c3,wk3.c4,wk3.c5,wk3.c6,wk3.c7,wk3.c8⟩|exact⟨wk1.c0,wk1.c1,wk1.c2,wk1.c3,wk1.c4,wk1.c5,wk1.c6,wk1.c7,wk1.c8⟩)
     (first
      | (go_at_call 215;refine KK1.mono ?_;clear KK1;rintro e w3 ⟨rfl,hb3⟩;have b13:Below w1.heap.size w1 w3:=below_via (below_self w1).drew hb3;have wk3:Wk w3 w.heap.size B c i:=wk1.step b13;have h3:=h1.step V b13;have KF1:=KF w3 F1 h3)
      | (go_at_call 163;refine KF1.mono ?_;clear KF1;rintro e w4 ⟨rfl,hj4⟩;have wk4:Wk w4 w.heap.size B c i:=wk3.but hj4.bt hx1))
    have b13:Below w1.heap.size w1 w3:=below_via (below_self w1).drew hb3
    have dj4:Dj T F w w4 B (dgD d1 i (kA c.nm c.ad)):=nx1 _ _ (Dj.then (F1:=F1) (.below b13) (fun _ hj=>.inl hj) hj4)
    have lot4:LotAt w4 p LL:=(hlot.step b13).but (n:=LL.length) (c:=cp) hj4.bt hsep
    have n6:=wk4.c6
    have KH1:=KH2 p cp w4 lot4
    clear KH2
    go_wp2_with (go_at_call 210;refine KH1.mono ?_;clear KH1;rintro e w5 ⟨u,rfl,hu,hb5⟩;obtain⟨pu,cu,rfl,_⟩:=lot_own (l:=[]) hu)
    go_ret
    exact⟨by rw[E1.out];rfl,by rw[E2.out];exact dj4.step V hb5⟩
   ·have hl0:0<(hav LL c.ad).length:=List.length_pos_iff.2 hh
    have hl0':(((hav LL c.ad).length:Int)==0)=false:=by simp;omega
    obtain⟨p1,p2,_⟩:=puts_is (d:=dgD d1 i (kA c.nm c.ad)) (i:=i) (k:=kA c.nm c.ad) (v:=c.ow) an0
    have E1:Hid (runF (pPlace c) d i=dcF (dgD d1 i (kA c.nm c.ad)) i ⟨kA c.nm c.ad,c.ow,false⟩):=A1.out.trans (ax.1.trans (by rw[if_neg hh];exact p1))
    have E2:Hid (runD (pPlace c) d i=dcD (dgD d1 i (kA c.nm c.ad)) i ⟨kA c.nm c.ad,c.ow,false⟩):=A2.out.trans (ax.2.1.trans (by rw[if_neg hh];exact p2))
    clear p1 p2
    rw[f2,f3,ev_0] at KF
    generalize fnS d1 i (kA c.nm c.ad)=SS at KF
    generalize hav LL c.ad=HH at KH hl0 hl0'
    clear f1 f2 f3 f4 ano ayes aerr hh ax
    go_enter Tryz.func167,Tryz.ntmps167
    go_wp2_with (go_at_call 207;rw[<- hW];refine KL.mono ?_;clear KL;rintro e w1 ⟨v,rfl,F1,h1,hF1,hb1,hrow,hsep⟩;obtain⟨dj1,nx1,hx1⟩:=D1 w1 F1 h1 hF1 hb1;have wk1:Wk w1 w.heap.size B c i:=wkW.but hb1 hbx;obtain⟨p,cp,rfl,hlot⟩:=lot_own hrow;have KK1:=KK w1 F1 h1)
    clear k0 k1 k2 k3 k4 k5 k6 k7 k8
    go_region_held3 (fun wy=>wy.cell? ⟨w.heap.size,0,none⟩=some (.pointer (some ⟨B,0,none⟩))/\wy.cell? ⟨w.heap.size,1,none⟩=some (.int .i64 c.what)/\wy.cell? ⟨w.heap.size,2,none⟩=some (.string c.nm)/\wy.cell? ⟨w.heap.size,3,none⟩=some (.int .i64 c.p.1)/\wy.cell? ⟨w.heap.size,4,none⟩=some (.int .i64 c.p.2)/\wy.cell? ⟨w.heap.size,5,none⟩=some (.int .i64 c.len)/\wy.cell? ⟨w.heap.size,6,none⟩=some (.int .i64 c.ad)/\wy.cell? ⟨w.heap.size,7,none⟩=some (.string c.ow)/\wy.cell? ⟨w.heap.size,8,none⟩=some (.int .i64 i))
     (first|exact⟨wk4.c0,wk4.c1,wk4.c2,wk4.c3,wk4.c4,wk4.c5,wk4.c6,wk4.c7,wk4.c8⟩|exact⟨wk3.c0,wk3.c1,wk3.c2,wk3.c3,wk3.c4,wk3.c5,wk3.c6,wk3.c7,wk3.c8⟩|exact⟨wk1.c0,wk1.c1,wk1.c2,wk1.c3,wk1.c4,wk1.c5,wk1.c6,wk1.c7,wk1.c8⟩)
     (first
      | (go_at_call 215;refine KK1.mono ?_;clear KK1;rintro e w3 ⟨rfl,hb3⟩;have b13:Below w1.heap.size w1 w3:=below_via (below_self w1).drew hb3;have wk3:Wk w3 w.heap.size B c i:=wk1.step b13;have h3:=h1.step V b13;have KF1:=KF w3 F1 h3)
      | (go_at_call 163;refine KF1.mono ?_;clear KF1;rintro e w4 ⟨rfl,hj4⟩;have wk4:Wk w4 w.heap.size B c i:=wk3.but hj4.bt hx1))
    have b13:Below w1.heap.size w1 w3:=below_via (below_self w1).drew hb3
    have dj4:Dj T F w w4 B (dgD d1 i (kA c.nm c.ad)):=nx1 _ _ (Dj.then (F1:=F1) (.below b13) (fun _ hj=>.inl hj) hj4)
    have lot4:LotAt w4 p LL:=(hlot.step b13).but (n:=LL.length) (c:=cp) hj4.bt hsep
    have n0:=wk4.c0
    have n1:=wk4.c1
    have n2:=wk4.c2
    have n3:=wk4.c3
    have n4:=wk4.c4
    have n5:=wk4.c5
    have n6:=wk4.c6
    have n7:=wk4.c7
    have n8:=wk4.c8
    have KH1:=KH p cp w4 lot4
    go_wp2_with (first
     | (go_at_call 210;refine KH1.mono ?_;clear KH1;rintro e w5 ⟨u,rfl,hu,hb5⟩;obtain⟨pu,cu,rfl,_⟩:=lot_own hu;obtain⟨F5,h5,hF5,nx5⟩:=Dj.next (dj4.step V hb5);have KP1:=KP w5 F5 h5;obtain⟨r0,r1,r2,r3,r4,r5,r6,r7,r8⟩:Wk w5 w.heap.size B c i:=wk4.step hb5)
     | (go_at_call 216;refine KP1.mono ?_;clear KP1;rintro e w6 ⟨rfl,hj6⟩))
    go_ret
    exact⟨by rw[E1.out];rfl,by rw[E2.out];exact nx5 _ _ hj6⟩
  ·have ax:=ayes f1
   by_cases hh:hav LL c.ad=[]
   ·have E1:Hid (runF (pPlace c) d i=7):=A1.out.trans (ax.1.trans (by rw[if_pos hh];rfl))
    have E2:Hid (runD (pPlace c) d i=dgD d1 i (kA c.nm c.ad)):=A2.out.trans (ax.2.1.trans (by rw[if_pos hh];rfl))
    rw[f2,f3,ev_0] at KF
    generalize fnS d1 i (kA c.nm c.ad)=SS at KF
    have KH2:=fun p cp w4 hp=>KH p cp w4 hp
    rw[hh] at KH2
    clear f1 f2 f3 f4 ano ayes aerr KP KH hh ax
    go_enter Tryz.func167,Tryz.ntmps167
    go_wp2_with (go_at_call 207;rw[<- hW];refine KL.mono ?_;clear KL;rintro e w1 ⟨v,rfl,F1,h1,hF1,hb1,hrow,hsep⟩;obtain⟨dj1,nx1,hx1⟩:=D1 w1 F1 h1 hF1 hb1;have wk1:Wk w1 w.heap.size B c i:=wkW.but hb1 hbx;obtain⟨p,cp,rfl,hlot⟩:=lot_own hrow;have KK1:=KK w1 F1 h1)
    clear k0 k1 k2 k3 k4 k5 k6 k7 k8
    go_region_held3 (fun wy=>wy.cell? ⟨w.heap.size,0,none⟩=some (.pointer (some ⟨B,0,none⟩))/\wy.cell? ⟨w.heap.size,1,none⟩=some (.int .i64 c.what)/\wy.cell? ⟨w.heap.size,2,none⟩=some (.string c.nm)/\wy.cell? ⟨w.heap.size,3,none⟩=some (.int .i64 c.p.1)/\wy.cell? ⟨w.heap.size,4,none⟩=some (.int .i64 c.p.2)/\wy.cell? ⟨w.heap.size,5,none⟩=some (.int .i64 c.len)/\wy.cell? ⟨w.heap.size,6,none⟩=some (.int .i64 c.ad)/\wy.cell? ⟨w.heap.size,7,none⟩=some (.string c.ow)/\wy.cell? ⟨w.heap.size,8,none⟩=some (.int .i64 i))
     (first|exact⟨wk4.c0,wk4.c1,wk4.c2,wk4.c3,wk4.c4,wk4.c5,wk4.c6,wk4.c7,wk4.c8⟩|exact⟨wk3.c0,wk3.c1,wk3.c2,wk3.c3,wk3.c4,wk3.c5,wk3.c6,wk3.c7,wk3.c8⟩|exact⟨wk1.c0,wk1.c1,wk1.c2,wk1.c3,wk1.c4,wk1.c5,wk1.c6,wk1.c7,wk1.c8⟩)
     (first
      | (go_at_call 215;refine KK1.mono ?_;clear KK1;rintro e w3 ⟨rfl,hb3⟩;have b13:Below w1.heap.size w1 w3:=below_via (below_self w1).drew hb3;have wk3:Wk w3 w.heap.size B c i:=wk1.step b13;have h3:=h1.step V b13;have KF1:=KF w3 F1 h3)
      | (go_at_call 163;refine KF1.mono ?_;clear KF1;rintro e w4 ⟨rfl,hj4⟩;have wk4:Wk w4 w.heap.size B c i:=wk3.but hj4.bt hx1))
    have b13:Below w1.heap.size w1 w3:=below_via (below_self w1).drew hb3
    have dj4:Dj T F w w4 B (dgD d1 i (kA c.nm c.ad)):=nx1 _ _ (Dj.then (F1:=F1) (.below b13) (fun _ hj=>.inl hj) hj4)
    have lot4:LotAt w4 p LL:=(hlot.step b13).but (n:=LL.length) (c:=cp) hj4.bt hsep
    have n6:=wk4.c6
    have KH1:=KH2 p cp w4 lot4
    clear KH2
    go_wp2_with (go_at_call 210;refine KH1.mono ?_;clear KH1;rintro e w5 ⟨u,rfl,hu,hb5⟩;obtain⟨pu,cu,rfl,_⟩:=lot_own (l:=[]) hu)
    go_ret
    exact⟨by rw[E1.out];rfl,by rw[E2.out];exact dj4.step V hb5⟩
   ·have hl0:0<(hav LL c.ad).length:=List.length_pos_iff.2 hh
    have hl0':(((hav LL c.ad).length:Int)==0)=false:=by simp;omega
    have E1:Hid (runF (pPlace c) d i=6):=A1.out.trans (ax.1.trans (by rw[if_neg hh];rfl))
    have E2:Hid (runD (pPlace c) d i=dgD d1 i (kA c.nm c.ad)):=A2.out.trans (ax.2.1.trans (by rw[if_neg hh];rfl))
    rw[f2,f3,ev_0] at KF
    generalize fnS d1 i (kA c.nm c.ad)=SS at KF
    generalize hav LL c.ad=HH at KH hl0 hl0'
    clear f1 f2 f3 f4 ano ayes aerr hh ax
    go_enter Tryz.func167,Tryz.ntmps167
    go_wp2_with (go_at_call 207;rw[<- hW];refine KL.mono ?_;clear KL;rintro e w1 ⟨v,rfl,F1,h1,hF1,hb1,hrow,hsep⟩;obtain⟨dj1,nx1,hx1⟩:=D1 w1 F1 h1 hF1 hb1;have wk1:Wk w1 w.heap.size B c i:=wkW.but hb1 hbx;obtain⟨p,cp,rfl,hlot⟩:=lot_own hrow;have KK1:=KK w1 F1 h1)
    clear k0 k1 k2 k3 k4 k5 k6 k7 k8
    go_region_held3 (fun wy=>wy.cell? ⟨w.heap.size,0,none⟩=some (.pointer (some ⟨B,0,none⟩))/\wy.cell? ⟨w.heap.size,1,none⟩=some (.int .i64 c.what)/\wy.cell? ⟨w.heap.size,2,none⟩=some (.string c.nm)/\wy.cell? ⟨w.heap.size,3,none⟩=some (.int .i64 c.p.1)/\wy.cell? ⟨w.heap.size,4,none⟩=some (.int .i64 c.p.2)/\wy.cell? ⟨w.heap.size,5,none⟩=some (.int .i64 c.len)/\wy.cell? ⟨w.heap.size,6,none⟩=some (.int .i64 c.ad)/\wy.cell? ⟨w.heap.size,7,none⟩=some (.string c.ow)/\wy.cell? ⟨w.heap.size,8,none⟩=some (.int .i64 i))
     (first|exact⟨wk4.c0,wk4.c1,wk4.c2,wk4.c3,wk4.c4,wk4.c5,wk4.c6,wk4.c7,wk4.c8⟩|exact⟨wk3.c0,wk3.c1,wk3.c2,wk3.c3,wk3.c4,wk3.c5,wk3.c6,wk3.c7,wk3.c8⟩|exact⟨wk1.c0,wk1.c1,wk1.c2,wk1.c3,wk1.c4,wk1.c5,wk1.c6,wk1.c7,wk1.c8⟩)
     (first
      | (go_at_call 215;refine KK1.mono ?_;clear KK1;rintro e w3 ⟨rfl,hb3⟩;have b13:Below w1.heap.size w1 w3:=below_via (below_self w1).drew hb3;have wk3:Wk w3 w.heap.size B c i:=wk1.step b13;have h3:=h1.step V b13;have KF1:=KF w3 F1 h3)
      | (go_at_call 163;refine KF1.mono ?_;clear KF1;rintro e w4 ⟨rfl,hj4⟩;have wk4:Wk w4 w.heap.size B c i:=wk3.but hj4.bt hx1))
    have b13:Below w1.heap.size w1 w3:=below_via (below_self w1).drew hb3
    have dj4:Dj T F w w4 B (dgD d1 i (kA c.nm c.ad)):=nx1 _ _ (Dj.then (F1:=F1) (.below b13) (fun _ hj=>.inl hj) hj4)
    have lot4:LotAt w4 p LL:=(hlot.step b13).but (n:=LL.length) (c:=cp) hj4.bt hsep
    have n0:=wk4.c0
    have n1:=wk4.c1
    have n2:=wk4.c2
    have n3:=wk4.c3
    have n4:=wk4.c4
    have n5:=wk4.c5
    have n6:=wk4.c6
    have n7:=wk4.c7
    have n8:=wk4.c8
    have KH1:=KH p cp w4 lot4
    go_wp2_with (go_at_call 210;refine KH1.mono ?_;clear KH1;rintro e w5 ⟨u,rfl,hu,hb5⟩;obtain⟨pu,cu,rfl,_⟩:=lot_own hu)
    go_ret
    exact⟨by rw[E1.out];rfl,by rw[E2.out];exact dj4.step V hb5⟩
  ·obtain⟨a1,a2,_⟩:=aerr f0 f1
   have E1:Hid (ev (runF (pPlace c) d i)=errN (dgF d1 i (kA c.nm c.ad))):=(congrArg ev (A1.out.trans a1)).trans (ev_ne f1)
   have E2:Hid (runD (pPlace c) d i=dgD d1 i (kA c.nm c.ad)):=A2.out.trans a2
   rw[f2,f3,ev_ne f1] at KF
   generalize fnS d1 i (kA c.nm c.ad)=SS at KF
   clear a1 a2 f0 f1 f2 f3 ano ayes aerr KP KH
   go_enter Tryz.func167,Tryz.ntmps167
   go_wp2_with (go_at_call 207;rw[<- hW];refine KL.mono ?_;clear KL;rintro e w1 ⟨v,rfl,F1,h1,hF1,hb1,hrow,hsep⟩;obtain⟨dj1,nx1,hx1⟩:=D1 w1 F1 h1 hF1 hb1;have wk1:Wk w1 w.heap.size B c i:=wkW.but hb1 hbx;obtain⟨p,cp,rfl,hlot⟩:=lot_own hrow;have KK1:=KK w1 F1 h1)
   clear k0 k1 k2 k3 k4 k5 k6 k7 k8
   go_region_held3 (fun wy=>wy.cell? ⟨w.heap.size,0,none⟩=some (.pointer (some ⟨B,0,none⟩))/\wy.cell? ⟨w.heap.size,1,none⟩=some (.int .i64 c.what)/\wy.cell? ⟨w.heap.size,2,none⟩=some (.string c.nm)/\wy.cell? ⟨w.heap.size,3,none⟩=some (.int .i64 c.p.1)/\wy.cell? ⟨w.heap.size,4,none⟩=some (.int .i64 c.p.2)/\wy.cell? ⟨w.heap.size,5,none⟩=some (.int .i64 c.len)/\wy.cell? ⟨w.heap.size,6,none⟩=some (.int .i64 c.ad)/\wy.cell? ⟨w.heap.size,7,none⟩=some (.string c.ow)/\wy.cell? ⟨w.heap.size,8,none⟩=some (.int .i64 i))
    (first|exact⟨wk4.c0,wk4.c1,wk4.c2,wk4.c3,wk4.c4,wk4.c5,wk4.c6,wk4.c7,wk4.c8⟩|exact⟨wk3.c0,wk3.c1,wk3.c2,wk3.c3,wk3.c4,wk3.c5,wk3.c6,wk3.c7,wk3.c8⟩|exact⟨wk1.c0,wk1.c1,wk1.c2,wk1.c3,wk1.c4,wk1.c5,wk1.c6,wk1.c7,wk1.c8⟩)
    (first
     | (go_at_call 215;refine KK1.mono ?_;clear KK1;rintro e w3 ⟨rfl,hb3⟩;have b13:Below w1.heap.size w1 w3:=below_via (below_self w1).drew hb3;have wk3:Wk w3 w.heap.size B c i:=wk1.step b13;have h3:=h1.step V b13;have KF1:=KF w3 F1 h3)
     | (go_at_call 163;refine KF1.mono ?_;clear KF1;rintro e w4 ⟨rfl,hj4⟩;have wk4:Wk w4 w.heap.size B c i:=wk3.but hj4.bt hx1))
   have b13:Below w1.heap.size w1 w3:=below_via (below_self w1).drew hb3
   have dj4:Dj T F w w4 B (dgD d1 i (kA c.nm c.ad)):=nx1 _ _ (Dj.then (F1:=F1) (.below b13) (fun _ hj=>.inl hj) hj4)
   have lot4:LotAt w4 p LL:=(hlot.step b13).but (n:=LL.length) (c:=cp) hj4.bt hsep
   go_wp2_with fail
   go_ret
   exact⟨by rw[E1.out];rfl,by rw[E2.out];exact dj4⟩
 ·obtain⟨a1,a2,a3⟩:=allL_no (d:=d) (i:=i) (n:=c.nm) (K:=fun l=>asks (kA c.nm c.ad) fun _ is=>if hav l c.ad=[] then err 7 else if is=true then err 6 else puts (kA c.nm c.ad) c.ow an0) h0
  have E1:Hid (ev (runF (pPlace c) d i)=errN (drF d i)):=(congrArg ev a1).trans (ev_ne h0)
  have E2:Hid (runD (pPlace c) d i=drD d i (loK 112 c.nm) (heK 112 c.nm)):=a2
  rw[ev_ne h0] at KL
  clear a1 a2 a3 h0 hW1
  go_enter Tryz.func167,Tryz.ntmps167
  go_wp2_with (go_at_call 207;rw[<- hW];refine KL.mono ?_;clear KL;rintro e w1 ⟨v,rfl,F1,h1,hF1,hb1,hrow,hsep⟩)
  go_ret
  exact⟨by rw[E1.out];rfl,by rw[E2.out];exact (D1 _ _ h1 hF1 hb1).1⟩
end
end Go.Proofs.YtcjdoeclblhaeaaGreatDoor.Pa

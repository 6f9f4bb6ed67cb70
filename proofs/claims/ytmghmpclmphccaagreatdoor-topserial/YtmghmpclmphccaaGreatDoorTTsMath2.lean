/- -/
import Derived.Test.YtmghmpclmphccaaGreatDoorTPlU
import Derived.Test.YtmghmpclmphccaaGreatDoorTHlB
import Derived.Test.YtmghmpclmphccaaGreatDoorTVsMath
import Derived.Test.YtmghmpclmphccaaGreatDoorTAdCutMath
import Derived.Test.YtmghmpclmphccaaGreatDoorTVsBase
import Derived.Test.YtmghmpclmphccaaGreatDoorTAppOne
import Derived.Test.YtmghmpclmphccaaGreatDoorTLgOwn
import Derived.Test.YtmghmpclmphccaaGreatDoorTRowK
import Derived.Test.YtmghmpclmphccaaGreatDoorTPlR
import Derived.Test.YtmghmpclmphccaaGreatDoorTTrBase
set_option maxHeartbeats 8000000
set_option maxRecDepth 100000
namespace Go.Proofs.YtmghmpclmphccaaGreatDoor.Pa
open Go.RowKit Vs
structure Tk where
 who:ByteArray
 num:Int
 cs:List Cl
 td:List (An×Int)
 ow:List Chg
structure Tp (vs:List Ver) (x:Tk) (o:Ox):Prop where
 run:o=rnC vs (ox0 o.id o.sees) x.cs
 td:x.td=tlR vs (ox0 o.id o.sees) x.cs
theorem rn_grow {vs ws:List Ver} {s t:Int} (hv:OkT vs s) (hw:OkT ws t) (i a:Int) (cs:List Cl) (hg:∀ k,vget vs k a=vget ws k a):rnC ws (ox0 i a) cs=rnC vs (ox0 i a) cs/\tlR ws (ox0 i a) cs=tlR vs (ox0 i a) cs:=by
 have q:=rnC_re hv hw i a cs (ox0 i a) (ox0_ris _ _) ⟨fun k _=>hg k,fun _ _ k _=>hg k⟩
 have e:reO (rnC vs (ox0 i a) cs) i a=rnC vs (ox0 i a) cs:=by
  have h:=rnC_id vs cs (ox0 i a)
  have h1:(rnC vs (ox0 i a) cs).id=i:=h.1
  have h2:(rnC vs (ox0 i a) cs).sees=a:=h.2
  unfold reO
  generalize rnC vs (ox0 i a) cs=o at h1 h2
  subst h1 h2
  rfl
 exact⟨q.1.trans e,q.2⟩
theorem Tp.grow {vs ws:List Ver} {s t:Int} (hv:OkT vs s) (hw:OkT ws t) {x:Tk} {o:Ox} (h:Tp vs x o) (hg:∀ k,vget vs k o.sees=vget ws k o.sees):Tp ws x o:=by
 have q:=rn_grow hv hw o.id o.sees x.cs hg
 exact⟨by rw[q.1];exact h.run,by rw[q.2];exact h.td⟩
theorem Tp.new (vs:List Ver) (who:ByteArray) (i s:Int):Tp vs ⟨who,0,[],[],[]⟩ (ox0 i s):=⟨rfl,rfl⟩
theorem Tp.act {vs:List Ver} {y:Tk} {o:Ox} (h:Tp vs y o) (c:Cl):Tp vs ⟨y.who,y.num,y.cs ++ [c],y.td ++ [tlC vs o c],y.ow⟩ (nxC vs o c):=by
 have hi:=lo_id (doP c) vs o
 have h1:(nxC vs o c).id=o.id:=hi.1
 have h2:(nxC vs o c).sees=o.sees:=hi.2
 have q:=rnC_app vs y.cs (ox0 o.id o.sees) c
 rw[<- h.run] at q
 refine⟨?_,?_⟩
 ·rw[h1,h2];exact q.1.symm
 ·rw[h1,h2]
  show y.td ++ [tlC vs o c]=_
  rw[q.2,h.td]
theorem Tp.ch {vs:List Ver} {x:Tk} {o:Ox} (h:Tp vs x o):chL x.cs x.td = !decide (o.own=[]):=by
 rw[h.td,rnC_chg vs x.cs (ox0 o.id o.sees) rfl,<- h.run]
structure Tv (ls:List (List Chg)) (x:Tk) (s b:Nat):Prop where
 sb:s<=b
 bl:b<=ls.length
 td:x.td=tlR (tab ls) (ox0 0 s) x.cs
 ow:x.ow=(rnC (tab ls) (ox0 0 s) x.cs).own
 agr:Agr (tab ls) s (tab ls) b (rnC (tab ls) (ox0 0 s) x.cs)
 new:x.ow ≠ []->ls[b]? = some x.ow/\x.num=b+1
 old:x.ow=[]->x.num=b
 ch:chL x.cs x.td = !decide (x.ow=[])
theorem Tv.grow {ls:List (List Chg)} {l:List Chg} (h0:∀ m∈ls ++ [l],chF m=0) (hn:(ls ++ [l]).length<=1000000) {x:Tk} {s b:Nat} (h:Tv ls x s b):Tv (ls ++ [l]) x s b:=by
 have hv:OkT (tab ls) ls.length:=tab_ok (fun m hm=>h0 m (List.mem_append.2 (.inl hm))) (by simp at hn;omega)
 have hw:=tab_ok h0 hn
 have hb:=h.bl
 have hs:=h.sb
 have q:=rn_grow hv hw 0 s x.cs (fun k=>grow_get l (show (s:Int)<=_ by omega) k)
 refine⟨hs,by simp;omega,by rw[q.2];exact h.td,by rw[q.1];exact h.ow,?_,fun g=>?_,h.old,h.ch⟩
 ·rw[q.1]
  refine⟨fun k hk=>?_,fun z hz k hk=>?_⟩
  ·rw[<- grow_get l (show (s:Int)<=_ by omega),<- grow_get l (show (b:Int)<=_ by omega)];exact h.agr.1 k hk
  ·rw[<- grow_get l (show (s:Int)<=_ by omega),<- grow_get l (show (b:Int)<=_ by omega)];exact h.agr.2 z hz k hk
 ·obtain⟨g1,g2⟩:=h.new g
  exact⟨by rw[List.getElem?_append,if_pos (List.getElem?_eq_some_iff.1 g1).1];exact g1,g2⟩
theorem rn_id {vs:List Ver} {t:Int} (hv:OkT vs t) (i j s:Int) (cs:List Cl):rnC vs (ox0 j s) cs=reO (rnC vs (ox0 i s) cs) j s/\tlR vs (ox0 j s) cs=tlR vs (ox0 i s) cs:=
 rnC_re hv hv j s cs (ox0 i s) (ox0_ris _ _) ⟨fun _ _=>rfl,fun _ _ _ _=>rfl⟩
theorem Tv.same {ls:List (List Chg)} (h0:∀ m∈ls,chF m=0) (hn:ls.length<=1000000) {y:Tk} {o:Ox} (h:Tp (tab ls) y o) (s0:0<=o.sees) (s1:o.sees<=ls.length) (he:o.own=[]):Tv ls ⟨y.who,o.sees,y.cs,y.td,o.own⟩ o.sees.toNat o.sees.toNat:=by
 have e:((o.sees.toNat:Nat):Int)=o.sees:=Int.toNat_of_nonneg s0
 have q:=rn_id (tab_ok h0 hn) o.id 0 o.sees y.cs
 refine⟨Nat.le_refl _,by omega,?_,?_,⟨fun _ _=>rfl,fun _ _ _ _=>rfl⟩,fun g=>absurd he g,fun _=>e.symm,h.ch⟩
 ·rw[e,q.2];exact h.td
 ·rw[e,q.1,<- h.run];rfl
theorem Tv.next {ls:List (List Chg)} {y:Tk} {o:Ox} (h0:∀ m∈ls ++ [o.own],chF m=0) (hn:(ls ++ [o.own]).length<=1000000) (h:Tp (tab ls) y o) (s0:0<=o.sees) (s1:o.sees<=ls.length) (he:o.own ≠ []) (hc:clash (tab ls) o=false):Tv (ls ++ [o.own]) ⟨y.who,ls.length+1,y.cs,y.td,o.own⟩ o.sees.toNat ls.length:=by
 have e:((o.sees.toNat:Nat):Int)=o.sees:=Int.toNat_of_nonneg s0
 have hv:OkT (tab ls) ls.length:=tab_ok (fun m hm=>h0 m (List.mem_append.2 (.inl hm))) (by simp at hn;omega)
 have hw:=tab_ok h0 hn
 have ha:=agr_calm hc s1
 have q:=rn_id hv o.id 0 o.sees y.cs
 have g:=rn_grow hv hw 0 o.sees y.cs (fun k=>grow_get o.own s1 k)
 rw[q.1,q.2,<- h.run,<- h.td] at g
 refine⟨by omega,by simp,by rw[e];exact g.2.symm,by rw[e,g.1];rfl,?_,fun _=>⟨?_,rfl⟩,fun g=>absurd g he,h.ch⟩
 ·rw[e,g.1]
  refine⟨fun k m=>?_,fun z hz k m=>?_⟩
  ·rw[<- grow_get _ s1,<- grow_get _ (Int.le_refl _)];exact ha.1 k m
  ·rw[<- grow_get _ s1,<- grow_get _ (Int.le_refl _)];exact ha.2 z hz k m
 ·rw[List.getElem?_append,if_neg (by omega),Nat.sub_self];rfl
def chT (x:Tk):Bool := !decide (x.ow=[])
structure Sx (k:Nat) (d:Dk) (S:Ses) (op ov:List Tk):Prop where
 dp:Dp k d
 up:UpL d.lg
 vs:d.vs=tab d.lg.ls
 len:op.length=d.op.length
 sl:S.length=op.length
 ses:∀ (j:Nat) (x:Tk) (o:Ox),op[j]? = some x->d.op[j]? = some o->S[j]? = some (x.who,o.id)
 nd:(S.map Prod.fst).Nodup
 opn:∀ (j:Nat) (x:Tk) (o:Ox),op[j]? = some x->d.op[j]? = some o->Tp d.vs x o
 ovr:∀ x∈ov,∃ s b,Tv d.lg.ls x s b
 nums:(ov.filter chT).map (fun x=>x.num)=(List.range d.lg.ls.length).map (fun (i:Nat)=>(i:Int)+1)
 nv:ov.length<=k
 so:∀ x∈op,x.cs.length<=k
 sv:∀ x∈ov,x.cs.length<=k
theorem Sx.new:Sx 0 (dk0 100000) [] [] []:=
 ⟨Dp.new (by decide) (by decide),UpL.new,rfl,rfl,rfl,fun j x o h=>by simp at h,List.nodup_nil,fun j x o h=>by simp at h,fun x h=>by simp at h,rfl,by simp,fun x h=>by simp at h,fun x h=>by simp at h⟩
section
variable {k:Nat} {d:Dk} {S:Ses} {op ov:List Tk}
theorem Sx.more (h:Sx k d S op ov):Sx (k+1) d S op ov:=
 ⟨h.dp.more,h.up,h.vs,h.len,h.sl,h.ses,h.nd,h.opn,h.ovr,h.nums,by have:=h.nv;omega,fun x hx=>by have:=h.so x hx;omega,fun x hx=>by have:=h.sv x hx;omega⟩
theorem Sx.ls (h:Sx k d S op ov):d.lg.ls.length<=k:=by
 have h1:=wtL_len h.dp.ok.each
 have h2:=h.dp.wl
 unfold wt at h2
 omega
theorem Sx.at (h:Sx k d S op ov) {j:Nat} {x:Tk} (hj:op[j]? = some x):∃ o,d.op[j]? = some o/\Tp d.vs x o/\o∈d.op/\opI d o.id=some o/\S[j]? = some (x.who,o.id):=by
 have hl:=(List.getElem?_eq_some_iff.1 hj).1
 have hl2:j<d.op.length:=by rw[<- h.len];exact hl
 have e:d.op[j]? = some d.op[j]:=List.getElem?_eq_getElem hl2
 have hm:=List.mem_of_getElem? e
 exact⟨_,e,h.opn j x _ hj e,hm,opI_is h.dp.ok.ids hm,h.ses j x _ hj e⟩
theorem sId_at:∀ {S:Ses} {j:Nat} {x:ByteArray} {i:Int},(S.map Prod.fst).Nodup->S[j]? = some (x,i)->sId S x=some i
 | y :: r,0,x,i,_,h=>by
  have:y=(x,i):=by simpa using h
  subst this
  exact if_pos rfl
 | y :: r,j+1,x,i,hn,h=>by
  rw[List.map_cons,List.nodup_cons] at hn
  have h':r[j]? = some (x,i):=by simpa using h
  have hm:x∈r.map Prod.fst:=List.mem_map.2 ⟨(x,i),List.mem_of_getElem? h',rfl⟩
  have hne:¬ x=y.1:=fun e=>hn.1 (e ▸ hm)
  rw[sId,if_neg hne]
  exact sId_at hn.2 h'
theorem sDel_none:∀ {S:Ses} {x:ByteArray},x ∉ S.map Prod.fst->sDel S x=S
 | [],_,_=>rfl
 | y :: r,x,h=>by
  rw[List.map_cons,List.mem_cons] at h
  rw[sDel,if_neg (fun e=>h (.inl e)),sDel_none (fun e=>h (.inr e))]
theorem sDel_at:∀ {S:Ses} {j:Nat} {x:ByteArray} {i:Int},(S.map Prod.fst).Nodup->S[j]? = some (x,i)->sDel S x=S.eraseIdx j
 | y :: r,0,x,i,hn,h=>by
  have:y=(x,i):=by simpa using h
  subst this
  rw[List.map_cons,List.nodup_cons] at hn
  rw[sDel,if_pos rfl,sDel_none hn.1];rfl
 | y :: r,j+1,x,i,hn,h=>by
  rw[List.map_cons,List.nodup_cons] at hn
  have h':r[j]? = some (x,i):=by simpa using h
  have hm:x∈r.map Prod.fst:=List.mem_map.2 ⟨(x,i),List.mem_of_getElem? h',rfl⟩
  have hne:¬ x=y.1:=fun e=>hn.1 (e ▸ hm)
  rw[sDel,if_neg hne,sDel_at hn.2 h'];rfl
theorem Sx.open_no (h:Sx k d S op ov) {who:ByteArray} (hf:hoF d S who≠0):Sx (k+1) (hoD d S who) (hoS d S who) op ov:=by
 have e1:hoS d S who=S:=if_neg hf
 have e2:hoD d S who=d:=by
  unfold hoD
  split
  ·rename_i c
   have:hoF d S who=bgF d:=by unfold hoF;rw[if_pos c.1,c.2];rfl
   rw[bgD,if_neg (by rw[<- this];exact hf)]
  ·rfl
 rw[e1,e2]
 exact h.more
theorem ho_parts {who:ByteArray} (hf:hoF d S who=0):bgF d=0/\sId S who=none/\hoD d S who=bgD d/\hoS d S who=S ++ [(who,bgN d)]:=by
 have hf':=hf
 unfold hoF at hf
 by_cases c1:Bur.isN who.data.toList=true
 ·rw[if_pos c1] at hf
  by_cases c2:(sId S who).isSome=true
  ·rw[if_pos c2] at hf;cases hf
  ·rw[if_neg c2] at hf
   have c3:sId S who=none:=by simpa using c2
   exact⟨hf,c3,if_pos ⟨c1,c3⟩,if_pos hf'⟩
 ·rw[if_neg c1] at hf;cases hf
theorem Sx.open (h:Sx k d S op ov) {who:ByteArray} (hf:hoF d S who=0):Sx (k+1) (hoD d S who) (hoS d S who) (op ++ [⟨who,0,[],[],[]⟩]) ov:=by
 obtain⟨hf,hn,e1,e2⟩:=ho_parts hf
 rw[e1,e2]
 obtain⟨h1,h2,h3,h4⟩:=wt_bg d
 have hv:=h.nv
 have en:bgN d=d.ids+1:=by rw[bgN,if_pos hf]
 have eo:(bgD d).op=d.op ++ [ox0 (d.ids+1) d.last]:=by rw[bgD,if_pos hf];rfl
 have last:∀ {j:Nat} {x:Tk} {o:Ox},(op ++ [⟨who,0,[],[],[]⟩])[j]? = some x->(bgD d).op[j]? = some o->(op[j]? = some x/\d.op[j]? = some o) \/ (j=op.length/\x=⟨who,0,[],[],[]⟩/\o=ox0 (d.ids+1) d.last):=by
  intro j x o hx ho
  rw[eo] at ho
  rw[List.getElem?_append] at hx ho
  rw[h.len] at hx
  split at hx
  ·rename_i c
   rw[if_pos c] at ho
   exact .inl ⟨hx,ho⟩
  ·rename_i c
   rw[if_neg c] at ho
   have h0:j - d.op.length=0:=by
    have:=(List.getElem?_eq_some_iff.1 hx).1
    simp at this;omega
   rw[h0] at hx ho
   exact .inr ⟨by rw[h.len];omega,by simpa using hx.symm,by simpa using ho.symm⟩
 refine⟨h.dp.bg,by rw[h3];exact h.up,by rw[h3,h4];exact h.vs,by rw[eo];simp[h.len],by simp[h.sl],fun j x o hx ho=>?_,sAdd_nd h.nd hn,fun j x o hx ho=>?_,by rw[h3];exact h.ovr,by rw[h3];exact h.nums,by omega,fun x hx=>?_,fun x hx=>by have:=h.sv x hx;omega⟩
 ·rcases last hx ho with ⟨a,b⟩|⟨a,b,c⟩
  ·have:=(List.getElem?_eq_some_iff.1 a).1
   rw[List.getElem?_append,if_pos (by rw[h.sl];exact this)]
   exact h.ses j x o a b
  ·rw[a,b,c,List.getElem?_append,if_neg (by rw[h.sl];omega),h.sl,Nat.sub_self,en];rfl
 ·rw[h4]
  rcases last hx ho with ⟨a,b⟩|⟨a,b,c⟩
  ·exact h.opn j x o a b
  ·rw[b,c];exact Tp.new _ _ _ _
 ·rcases List.mem_append.1 hx with hx|hx
  ·have:=h.so x hx;omega
  ·rw[List.mem_singleton.1 hx];simp
theorem Sx.ask (h:Sx k d S op ov) {j:Nat} {y:Tk} (hj:op[j]? = some y) (c:Cl):∃ o,haA d S y.who c=(tlC d.vs o c).1/\haF d S y.who c=(tlC d.vs o c).2 ∧
  Sx (k+1) (haD d S y.who c) S (op.set j ⟨y.who,y.num,y.cs ++ [c],y.td ++ [tlC d.vs o c],y.ow⟩) ov:=by
 obtain⟨o,ho,hp,hm,hI,hS⟩:=h.at hj
 have hs:=sId_at h.nd hS
 obtain⟨r1,r2,r3⟩:=run_lo (doP c) d o.id o h.dp.ok.ids hI
 have hid:=lo_id (doP c) d.vs o
 have hv:=h.nv
 have e1:haD d S y.who c=opSet d (nxC d.vs o c):=by unfold haD;rw[hs];exact r3
 have eo:(opSet d (nxC d.vs o c)).op=d.op.set j (nxC d.vs o c):=opSet_at h.dp.ok.ids ho hid.1
 have dp:Dp (k+1) (haD d S y.who c):=by unfold haD;rw[hs];exact dp_run h.dp c _
 refine⟨o,by unfold haA;rw[hs];exact r1,by unfold haF;rw[hs];exact r2,?_⟩
 rw[e1] at dp ⊢
 refine⟨dp,h.up,h.vs,by rw[eo,List.length_set,List.length_set];exact h.len,by rw[List.length_set];exact h.sl,fun i z q hz hq=>?_,h.nd,fun i z q hz hq=>?_,h.ovr,h.nums,by omega,fun z hz=>?_,fun z hz=>by have:=h.sv z hz;omega⟩
 ·rw[eo] at hq
  rw[List.getElem?_set] at hz hq
  by_cases c:j=i
  ·rw[if_pos c] at hz hq
   split at hz
   ·split at hq
    ·rw[<- Option.some.inj hz,<- Option.some.inj hq,<- c,hS,show (nxC d.vs o _).id=o.id from hid.1]
    ·cases hq
   ·cases hz
  ·rw[if_neg c] at hz hq
   exact h.ses i z q hz hq
 ·show Tp d.vs z q
  rw[eo] at hq
  rw[List.getElem?_set] at hz hq
  by_cases c:j=i
  ·rw[if_pos c] at hz hq
   split at hz
   ·split at hq
    ·rw[<- Option.some.inj hz,<- Option.some.inj hq]
     exact hp.act _
    ·cases hq
   ·cases hz
  ·rw[if_neg c] at hz hq
   exact h.opn i z q hz hq
 ·rcases List.mem_or_eq_of_mem_set hz with hz|rfl
  ·have:=h.so z hz;omega
  ·have:=h.so y (List.mem_of_getElem? hj)
   simp;omega
theorem erase_two {α β : Type} {a:List α} {b:List β} {P : α -> β -> Prop} (h:∀ (j:Nat) (x : α) (o : β),a[j]? = some x->b[j]? = some o->P x o) (j:Nat):∀ (i:Nat) (x : α) (o : β),(a.eraseIdx j)[i]? = some x->(b.eraseIdx j)[i]? = some o->P x o:=by
 intro i x o hx ho
 rw[List.getElem?_eraseIdx] at hx ho
 split at hx
 ·rename_i c
  rw[if_pos c] at ho
  exact h i x o hx ho
 ·rename_i c
  rw[if_neg c] at ho
  exact h (i+1) x o hx ho
theorem Sx.gone (h:Sx k d S op ov) {j:Nat} {y:Tk} {o:Ox} (ho:d.op[j]? = some o) (hS:S[j]? = some (y.who,o.id)):Sx (k+1) (opDel d o.id) (sDel S y.who) (op.eraseIdx j) ov:=by
 have hv:=h.nv
 have eo:(opDel d o.id).op=d.op.eraseIdx j:=opDel_at h.dp.ok.ids ho
 have es:=sDel_at h.nd hS
 have nd:=sDel_nd (k:=y.who) h.nd
 refine⟨h.dp.del _,h.up,h.vs,by rw[eo,List.length_eraseIdx,List.length_eraseIdx,h.len],by rw[es,List.length_eraseIdx,List.length_eraseIdx,h.sl],fun i x q hx hq=>?_,nd,fun i x q hx hq=>?_,h.ovr,h.nums,by omega,fun z hz=>by have:=h.so z (List.mem_of_mem_eraseIdx hz);omega,fun z hz=>by have:=h.sv z hz;omega⟩
 ·rw[eo] at hq
  rw[es]
  rw[List.getElem?_eraseIdx] at hx hq ⊢
  split at hx
  ·rename_i c
   rw[if_pos c] at hq ⊢
   exact h.ses i x q hx hq
  ·rename_i c
   rw[if_neg c] at hq ⊢
   exact h.ses (i+1) x q hx hq
 ·rw[eo] at hq
  exact erase_two h.opn j i x q hx hq
theorem Sx.quit (h:Sx k d S op ov) {j:Nat} {y:Tk} (hj:op[j]? = some y):hqF d S y.who=0/\Sx (k+1) (hqD d S y.who) (sDel S y.who) (op.eraseIdx j) ov:=by
 obtain⟨o,ho,hp,hm,hI,hS⟩:=h.at hj
 have hs:=sId_at h.nd hS
 refine⟨by unfold hqF;rw[hs];show abF d o.id=0;unfold abF;rw[hI];rfl,?_⟩
 have:hqD d S y.who=opDel d o.id:=by unfold hqD;rw[hs]
 rw[this]
 exact h.gone ho hS
theorem Sx.close (h:Sx k d S op ov) (hk:k<=90) {j:Nat} {y:Tk} (hj:op[j]? = some y) :
  (hcF d S y.who=0 /\ ∃ ow,Sx (k+1) (hcD d S y.who) (sDel S y.who) (op.eraseIdx j) (ov ++ [⟨y.who,hcN d S y.who,y.cs,y.td,ow⟩])) \/ (hcF d S y.who≠0/\Sx (k+1) (hcD d S y.who) (sDel S y.who) (op.eraseIdx j) ov):=by
 obtain⟨o,ho,hp,hm,hI,hS⟩:=h.at hj
 have hs:=sId_at h.nd hS
 have e1:hcF d S y.who=cmF d o.id:=by unfold hcF;rw[hs]
 have e2:hcN d S y.who=cmN d o.id:=by unfold hcN;rw[hs]
 have e3:hcD d S y.who=cmD d o.id:=by unfold hcD;rw[hs]
 rw[e1,e2,e3]
 have hok:=h.dp.ok.op o hm
 have hls:=h.ls
 have hlast:=h.dp.ok.last
 have hs1:o.sees<=d.lg.ls.length:=by have:=hok.s1;omega
 have hg:=h.gone ho hS
 have hso:=h.so y (List.mem_of_getElem? hj)
 have hv:=h.nv
 have hap:=h.up.room h.dp.ok.lg (by omega) hok.own
 have hcm:=h.dp.cm o.id
 unfold cmF cmN
 have eD:cmD d o.id=(match opI d o.id with
  | none=>d
  | some q=>if clash d.vs q=true then opDel d o.id else if q.own=[] then opDel d o.id else if apF d.lg q.own=0 then addL (opDel d o.id) q.own else { opDel d o.id with lg:=apG d.lg q.own }):=rfl
 rw[eD] at hcm ⊢
 rw[hI] at hcm ⊢
 simp only at hcm ⊢
 by_cases c:clash d.vs o=true
 ·simp only [c,if_true] at hcm ⊢
  exact .inr ⟨by decide,hg⟩
 ·simp only [c,Bool.false_eq_true,if_false] at hcm ⊢
  by_cases c2:o.own=[]
  ·simp only [c2,if_true] at hcm ⊢
   refine .inl ⟨trivial,o.own,⟨hg.dp,hg.up,hg.vs,hg.len,hg.sl,hg.ses,hg.nd,hg.opn,fun x hx=>?_,?_,by simp;omega,hg.so,fun x hx=>?_⟩⟩
   ·rcases List.mem_append.1 hx with hx|hx
    ·exact h.ovr x hx
    ·rw[List.mem_singleton.1 hx]
     rw[h.vs] at hp
     exact⟨_,_,Tv.same h.dp.ok.lg.each (by omega) hp hok.s0 hs1 c2⟩
   ·rw[List.filter_append,List.filter_cons_of_neg (by show ¬ chT _=true;unfold chT;simp[c2]),List.filter_nil,List.append_nil]
    exact h.nums
   ·rcases List.mem_append.1 hx with hx|hx
    ·have:=h.sv x hx;omega
    ·rw[List.mem_singleton.1 hx];show y.cs.length<=_;omega
  ·simp only [c2,hap,if_false,if_true] at hcm ⊢
   have el:(addL (opDel d o.id) o.own).lg.ls=d.lg.ls ++ [o.own]:=by
    show (apG d.lg o.own).ls=_
    rw[ls_ap,if_pos hap]
   have ev:(addL (opDel d o.id) o.own).vs=tab (d.lg.ls ++ [o.own]):=by
    rw[tab_app,<- h.vs,<- hlast];rfl
   have h0:∀ m∈d.lg.ls ++ [o.own],chF m=0:=by rw[<- el];exact hcm.ok.lg.each
   have hn:(d.lg.ls ++ [o.own]).length<=1000000:=by simp;omega
   have hT:OkT (tab d.lg.ls) d.lg.ls.length:=tab_ok h.dp.ok.lg.each (by omega)
   have eo:(opDel d o.id).op=d.op.eraseIdx j:=opDel_at h.dp.ok.ids ho
   refine .inl ⟨trivial,o.own,⟨hcm,h.up.ap _,by rw[el,ev],hg.len,hg.sl,hg.ses,hg.nd,fun i x q hx hq=>?_,fun x hx=>?_,?_,by simp;omega,hg.so,fun x hx=>?_⟩⟩
   ·have hq':(opDel d o.id).op[i]? = some q:=hq
    have h1:=hg.opn i x q hx hq'
    have h2:=h.dp.ok.op q (by rw[eo] at hq';exact List.mem_of_mem_eraseIdx (List.mem_of_getElem? hq'))
    have h1':Tp (tab d.lg.ls) x q:=by rw[<- h.vs];exact h1
    rw[ev]
    exact h1'.grow hT (tab_ok h0 hn) (fun k=>grow_get _ (by have:=h2.s1;omega) k)
   ·rw[el]
    rcases List.mem_append.1 hx with hx|hx
    ·obtain⟨s,b,g⟩:=h.ovr x hx
     exact⟨s,b,g.grow h0 hn⟩
    ·rw[List.mem_singleton.1 hx]
     have hp':Tp (tab d.lg.ls) y o:=by rw[<- h.vs];exact hp
     have g:=Tv.next h0 hn hp' hok.s0 hs1 c2 (by rw[<- h.vs];simpa using c)
     rw[hlast]
     exact⟨_,_,g⟩
   ·rw[el,List.filter_append,List.filter_cons_of_pos (by unfold chT;rw[decide_eq_false c2];rfl),List.filter_nil,List.map_append,h.nums,List.length_append,List.length_singleton,range_more,hlast]
    rfl
   ·rcases List.mem_append.1 hx with hx|hx
    ·have:=h.sv x hx;omega
    ·rw[List.mem_singleton.1 hx];show y.cs.length<=_;omega
end
end Go.Proofs.YtmghmpclmphccaaGreatDoor.Pa
namespace Go.Proofs.YtmghmpclmphccaaGreatDoor.Pa
open Go.RowKit Vs
def zs:ByteArray:=⟨#[122]⟩
structure Ax (ls:List (List Chg)) (m n:Nat) (a:Dk):Prop where
 al:Al ls m a
 ids:a.ids<=n
 sp:Spz a
theorem Ax.new (ls:List (List Chg)):Ax ls 0 0 (dk0 100000):=⟨Al.new ls,by simp[dk0],fun o ho=>by simp[dk0] at ho⟩
theorem wtL_tk (ls:List (List Chg)) (m:Nat):wtL (ls.take m)<=wtL ls:=by
 have h:ls=ls.take m++ls.drop m:=(List.take_append_drop m ls).symm
 conv=>rhs;rw[h]
 unfold wtL
 rw[List.map_append,List.sum_append]
 omega
theorem aD_sm {ls:List (List Chg)} {m n:Nat} {a:Dk} (h:Ax ls m n a) (hl:wtL ls<=90) (hn:n<=90000) {o:Ox} (ok:OkD (aD a o)):Sm (aD a o):=by
 have h1:=(chF_ok (ok.op o (by simp[aD])).own).1
 have h2:=wtL_tk ls m
 have h3:=h.ids
 refine⟨?_,by show a.ids+1<=_;omega⟩
 show wtL a.lg.ls+wtO [o]<=900
 rw[h.al.le]
 simp only [wtO,List.map_cons,List.map_nil,List.sum_cons,List.sum_nil]
 omega
theorem Ax.sm {ls:List (List Chg)} {m n:Nat} {a:Dk} (h:Ax ls m n a) (hl:wtL ls<=90) (hn:n<=90000):Sm a:=by
 have h2:=wtL_tk ls m
 have h3:=h.ids
 refine⟨?_,by omega⟩
 show wtL a.lg.ls+wtO a.op<=900
 rw[h.al.le,h.al.op]
 simp[wtO]
 omega
structure Ay (ls:List (List Chg)) (m n:Nat) (a:Dk) (o:Ox) (cs:List Cl) (td:List (An×Int)):Prop where
 ax:Ax ls m n a
 ok:OkD (aD a o)
 sp:Spz (aD a o)
 run:o=rnC a.vs (ox0 (a.ids+1) m) cs
 td:td=tlR a.vs (ox0 (a.ids+1) m) cs
section
variable {ls:List (List Chg)} {m n:Nat} {a:Dk} {o:Ox} {cs:List Cl} {td:List (An×Int)}
theorem Ay.id (h:Ay ls m n a o cs td):o.id=a.ids+1:=by rw[h.run];exact (rnC_id _ _ _).1
theorem Ay.sees (h:Ay ls m n a o cs td):o.sees=m:=by rw[h.run];exact (rnC_id _ _ _).2
theorem Ay.sm (h:Ay ls m n a o cs td) (hl:wtL ls<=90) (hn:n<=90000):Sm (aD a o):=aD_sm h.ax hl hn h.ok
theorem Ax.open (h:Ax ls m n a):hoF a [] zs=0 /\ ∃ o,hoD a [] zs=aD a o/\hoS a [] zs=[(zs,o.id)]/\Ay ls m n a o [] []:=by
 obtain⟨b1,b2,b3⟩:=h.al.bg
 have f0:hoF a [] zs=0:=by unfold hoF;rw[if_pos (by decide),if_neg (by simp[sId])];exact b1
 refine⟨f0,ox0 (a.ids+1) m,?_,?_,h,h.al.ok0,?_,rfl,rfl⟩
 ·rw[<- b3];exact if_pos ⟨by decide,rfl⟩
 ·unfold hoS;rw[if_pos f0,b2];rfl
 ·rw[<- b3];exact spz_bg h.sp
theorem Ay.ask (h:Ay ls m n a o cs td) (c:Cl):haA (aD a o) [(zs,o.id)] zs c=(tlC a.vs o c).1/\haF (aD a o) [(zs,o.id)] zs c=(tlC a.vs o c).2/\haD (aD a o) [(zs,o.id)] zs c=aD a (nxC a.vs o c)/\(nxC a.vs o c).id=o.id/\Ay ls m n a (nxC a.vs o c) (cs ++ [c]) (td ++ [tlC a.vs o c]):=by
 have hs:sId [(zs,o.id)] zs=some o.id:=if_pos rfl
 have hI:opI (aD a o) o.id=some o:=by rw[h.id];exact aD_at h.id
 obtain⟨r1,r2,r3⟩:=run_lo (doP c) (aD a o) o.id o h.ok.ids hI
 have hid:=lo_id (doP c) a.vs o
 have e:opSet (aD a o) (nxC a.vs o c)=aD a (nxC a.vs o c):=aD_set h.id (hid.1.trans h.id)
 obtain⟨a1,_,_,a4⟩:=run_good (doP c) (aD a o) o.id (gd_do c) h.ok h.sp
 have r3':runD (doP c) (aD a o) o.id=aD a (nxC a.vs o c):=r3.trans e
 rw[r3'] at a1 a4
 have q:=rnC_app a.vs cs (ox0 (a.ids+1) m) c
 rw[<- h.run,<- h.td] at q
 refine⟨by unfold haA;rw[hs];exact r1,by unfold haF;rw[hs];exact r2,by unfold haD;rw[hs];exact r3',hid.1,h.ax,a1,a4,q.1.symm,q.2.symm⟩
theorem Ax.told (h0:∀ l∈ls,chF l=0) (hn:ls.length<=1000000) (h:Ax ls m n a) {x:Tk} {s:Nat} (hx:Tv ls x s m):tlR a.vs (ox0 (a.ids+1) m) x.cs=x.td/\(rnC a.vs (ox0 (a.ids+1) m) x.cs).own=x.ow:=by
 have hv:=tab_ok h0 hn
 have hw:OkT (tab (ls.take m)) (ls.take m).length:=tab_ok (fun l hl=>h0 l (List.mem_of_mem_take hl)) (by rw[List.length_take];omega)
 rw[h.al.vs,h.al.le]
 have q:=rnC_re hv hw (a.ids+1) m x.cs (ox0 0 s) (ox0_ris _ _) ⟨fun k hk=>by rw[<- take_get h.al.ml (Int.le_refl _)];exact hx.agr.1 k hk,fun z hz k hk=>by rw[<- take_get h.al.ml (Int.le_refl _)];exact hx.agr.2 z hz k hk⟩
 refine⟨q.2.trans hx.td.symm,?_⟩
 have:rnC (tab (ls.take m)) (ox0 (a.ids+1) m) x.cs=reO (rnC (tab ls) (ox0 0 s) x.cs) (a.ids+1) m:=q.1
 rw[this,hx.ow];rfl
theorem Ay.close (hl:ls.length<=90) {x:Tk} {s:Nat} (hx:Tv ls x s m) (h:Ay ls m n a o x.cs td) (ew:o.own=x.ow) :
  hcF (aD a o) [(zs,o.id)] zs=0/\hcN (aD a o) [(zs,o.id)] zs=x.num/\sDel [(zs,o.id)] zs=[]/\Ax ls (if x.ow=[] then m else m+1) (n+1) (hcD (aD a o) [(zs,o.id)] zs):=by
 have hs:sId [(zs,o.id)] zs=some o.id:=if_pos rfl
 have e1:hcF (aD a o) [(zs,o.id)] zs=cmF (aD a o) o.id:=by unfold hcF;rw[hs]
 have e2:hcN (aD a o) [(zs,o.id)] zs=cmN (aD a o) o.id:=by unfold hcN;rw[hs]
 have e3:hcD (aD a o) [(zs,o.id)] zs=cmD (aD a o) o.id:=by unfold hcD;rw[hs]
 rw[e1,e2,e3]
 have ei:=h.id
 have es:o.sees=a.last:=by rw[h.sees,h.ax.al.last]
 have hcl:clash (aD a o).vs o=false:=clash_last h.ok es
 have hc:=h.ok.op o (by simp[aD])
 have hml:=h.ax.al.ml
 have hla:=h.ax.al.last
 have hai:=h.ax.ids
 have hap:apF a.lg o.own=0:=h.ax.al.up.room h.ax.al.ok.lg (by rw[h.ax.al.le,List.length_take];omega) hc.own
 have hap':apF (aD a o).lg o.own=0:=hap
 have hcm:=h.ok.cm (a.ids+1)
 have hsp:∀ (x:Dk),x.op=[]->Spz x:=fun x hx o ho=>by rw[hx] at ho;cases ho
 rw[ei]
 unfold cmF cmN
 have eD:cmD (aD a o) (a.ids+1)=(match opI (aD a o) (a.ids+1) with
  | none=>aD a o
  | some o'=>if clash (aD a o).vs o'=true then opDel (aD a o) (a.ids+1) else if o'.own=[] then opDel (aD a o) (a.ids+1) else if apF (aD a o).lg o'.own=0 then addL (opDel (aD a o) (a.ids+1)) o'.own else { opDel (aD a o) (a.ids+1) with lg:=apG (aD a o).lg o'.own }):=rfl
 rw[eD] at hcm ⊢
 rw[aD_at ei,aD_del ei] at hcm ⊢
 simp only [hcl,Bool.false_eq_true,if_false] at hcm ⊢
 by_cases c:o.own=[]
 ·simp only [c,if_true] at hcm ⊢
  rw[if_pos (ew.symm.trans c)]
  exact⟨trivial,by rw[es,hla,hx.old (ew.symm.trans c)],if_pos rfl,⟨hcm,h.ax.al.up,h.ax.al.vs,h.ax.al.le,hml,rfl⟩,by show a.ids+1<=_;omega,hsp _ rfl⟩
 ·simp only [c,hap',if_false,if_true] at hcm ⊢
  have hnw:=hx.new (by rw[<- ew];exact c)
  rw[if_neg (by rw[<- ew];exact c)]
  have hlt:=(List.getElem?_eq_some_iff.1 hnw.1).1
  have el:(apG a.lg o.own).ls=ls.take (m+1):=by
   rw[ls_ap,if_pos hap,h.ax.al.le,List.take_add_one,hnw.1,ew];rfl
  refine⟨trivial,by show a.last+1=_;rw[hla,hnw.2],if_pos rfl,⟨hcm,h.ax.al.up.ap _,?_,el,hlt,rfl⟩,by show a.ids+1<=_;omega,hsp _ rfl⟩
  show a.vs++o.own.map (verC (a.last+1))=tab (apG a.lg o.own).ls
  rw[ls_ap,if_pos hap,tab_app,<- h.ax.al.vs,<- h.ax.al.ok.last]
end
section
variable {k:Nat} {d:Dk} {S:Ses} {op ov:List Tk}
theorem Sx.once (h:Sx k d S op ov) {i j:Nat} {x y:Tk} (hi:ov[i]? = some x) (hj:ov[j]? = some y) (cx:chT x=true) (cy:chT y=true) (e:x.num=y.num):i=j:=by
 have hp:((ov.filter chT).map (fun x=>x.num)).Pairwise (fun a b=>a≠b):=by
  rw[h.nums,List.pairwise_map]
  exact List.nodup_range.imp (fun hab=>by omega)
 rw[List.pairwise_map,List.pairwise_filter] at hp
 obtain⟨a1,a2⟩:=List.getElem?_eq_some_iff.1 hi
 obtain⟨b1,b2⟩:=List.getElem?_eq_some_iff.1 hj
 rcases Nat.lt_trichotomy i j with c|c|c
 ·have:=List.pairwise_iff_getElem.1 hp i j a1 b1 c
  rw[a2,b2] at this
  exact absurd e (this cx cy)
 ·exact c
 ·have:=List.pairwise_iff_getElem.1 hp j i b1 a1 c
  rw[a2,b2] at this
  exact absurd e.symm (this cy cx)
theorem Sx.has (h:Sx k d S op ov) {n:Nat} (h1:1<=n) (hn:n<=d.lg.ls.length):∃ (j:Nat) (x:Tk),ov[j]? = some x/\chT x=true/\x.num=n:=by
 have hm:(n:Int)∈(ov.filter chT).map (fun x=>x.num):=by
  rw[h.nums]
  exact List.mem_map.2 ⟨n - 1,List.mem_range.2 (by omega),by omega⟩
 obtain⟨x,hx,e⟩:=List.mem_map.1 hm
 obtain⟨hx1,hx2⟩:=List.mem_filter.1 hx
 obtain⟨j,hj⟩:=List.mem_iff_getElem?.1 hx1
 exact⟨j,x,hj,hx2,e⟩
def Ad (ov:List Tk) (n i m:Nat):Prop:=(m+1=n /\ ∀ (j:Nat) (x:Tk),j<i->ov[j]? = some x->chT x=true->x.num≠n) \/ (m=n /\ ∀ (j:Nat) (x:Tk),i<=j->ov[j]? = some x->chT x=true->x.num≠n)
theorem Ad.first (h:Sx k d S op ov):Ad ov 0 0 0:=by
 refine .inr ⟨rfl,fun j x _ hj hc e=>?_⟩
 obtain⟨s,b,g⟩:=h.ovr x (List.mem_of_getElem? hj)
 have:=(g.new (by simpa [chT] using hc)).2
 omega
theorem Ad.next {n:Nat}:Ad ov (n+1) 0 n:=.inl ⟨rfl,fun j x hj=>by omega⟩
theorem Ad.skip {n i m:Nat} {x:Tk} (h:Ad ov n i m) (hi:ov[i]? = some x) (hne:¬ (x.num=n/\chT x=true)):Ad ov n (i+1) m:=by
 rcases h with ⟨h1,h2⟩|⟨h1,h2⟩
 ·refine .inl ⟨h1,fun j y hj hy hc e=>?_⟩
  by_cases c:j=i
  ·subst c
   rw[hi] at hy
   have:=Option.some.inj hy
   subst this
   exact hne ⟨e,hc⟩
  ·exact h2 j y (by omega) hy hc e
 ·exact .inr ⟨h1,fun j y hj=>h2 j y (by omega)⟩
theorem Ad.done (h:Sx k d S op ov) {n i m:Nat} {x:Tk} (ha:Ad ov n i m) (hi:ov[i]? = some x) (e:x.num=n) (hc:chT x=true):(∃ s,Tv d.lg.ls x s m)/\x.ow ≠ []/\Ad ov n (i+1) (m+1):=by
 obtain⟨s,b,g⟩:=h.ovr x (List.mem_of_getElem? hi)
 have hne:x.ow ≠ []:=by simpa [chT] using hc
 have h2:=(g.new hne).2
 rcases ha with ⟨h1,_⟩|⟨_,h3⟩
 ·have hb:b=m:=by omega
  subst hb
  refine⟨⟨s,g⟩,hne,.inr ⟨h1,fun j y hj hy hcy ey=>?_⟩⟩
  have:=h.once hi hy hc hcy (e.trans ey.symm)
  omega
 ·exact absurd e (h3 i x (Nat.le_refl _) hi hc)
theorem Ad.end (h:Sx k d S op ov) {n m:Nat} (hn:n<=d.lg.ls.length) (ha:Ad ov n ov.length m):m=n:=by
 rcases ha with ⟨h1,h2⟩|⟨h1,_⟩
 ·obtain⟨j,x,hj,hc,e⟩:=h.has (n:=n) (by omega) hn
  exact absurd e (h2 j x (List.getElem?_eq_some_iff.1 hj).1 hj hc)
 ·exact h1
theorem Sx.old (h:Sx k d S op ov) {n i:Nat} {x:Tk} (hi:ov[i]? = some x) (e:x.num=n) (hc:chT x=false):(∃ s,Tv d.lg.ls x s n)/\x.ow=[]:=by
 obtain⟨s,b,g⟩:=h.ovr x (List.mem_of_getElem? hi)
 have hne:x.ow=[]:=by simpa [chT] using hc
 have h2:=g.old hne
 have hb:b=n:=by omega
 subst hb
 exact⟨⟨s,g⟩,hne⟩
theorem Sx.num (h:Sx k d S op ov) {x:Tk} (hx:x∈ov):0<=x.num/\x.num<=d.lg.ls.length:=by
 obtain⟨s,b,g⟩:=h.ovr x hx
 have:=g.bl
 by_cases c:x.ow=[]
 ·have:=g.old c;omega
 ·have:=(g.new c).2
  have:=(List.getElem?_eq_some_iff.1 (g.new c).1).1
  omega
theorem Sx.chx (h:Sx k d S op ov) {x:Tk} (hx:x∈ov):chL x.cs x.td=chT x:=by
 obtain⟨s,b,g⟩:=h.ovr x hx
 exact g.ch
theorem Ax.same (h:Sx k d S op ov) {n:Nat} {a:Dk} (ha:Ax d.lg.ls d.lg.ls.length n a):allP a=allP d:=by
 have hl:a.last=d.last:=by rw[ha.al.last,h.dp.ok.last]
 rw[allP_at,allP_at,hl,ha.al.vs,ha.al.le,List.take_length,h.vs]
end
end Go.Proofs.YtmghmpclmphccaaGreatDoor.Pa
namespace Go.Proofs.YtmghmpclmphccaaGreatDoor.Pa
open Go.RowKit Go.Maps Vs
structure H1 (T:Td) (w0:World) (K:Nat->Prop) (w:World) (H:Nat) (d:Dk) (S:Ses):Prop where
 ex:∃ G,Hl T w G H d S /\ ∀ j,K j -> ¬ G j
 kl:∀ j,K j->j<w.heap.size
 old:∀ j,j<w0.heap.size->K j
 bl:Below w0.heap.size w0 w
section
variable {T:Td} {w0 w w':World} {K:Nat->Prop} {H:Nat} {d:Dk} {S:Ses}
theorem H1.op {G:Nat->Prop} {d':Dk} {S':Ses} (h:H1 T w0 K w H d S) (hK:∀ j,K j -> ¬ G j) (hp:Hp T G H w w' d' S'):H1 T w0 K w' H d' S'/\But (fun j=>¬ K j) w w':=by
 obtain⟨G',h1,n1,b1⟩:=hp
 have s:=b1.size
 refine⟨⟨⟨G',h1,fun j hj q=>?_⟩,fun j hj=>Nat.lt_of_lt_of_le (h.kl j hj) s,h.old,But.under2 h.bl b1 h.bl.size (fun i hi q=>hK i (h.old i hi) q)⟩,b1.mono (fun j _ hj q=>hK j q hj)⟩
 rcases n1 j q with g|g
 ·exact hK j hj g
 ·have:=h.kl j hj
  have:=g.1
  omega
theorem H1.step (V:DFace T) (h:H1 T w0 K w H d S) (hb:Below w.heap.size w w'):H1 T w0 (fun j=>K j \/ (w.heap.size<=j/\j<w'.heap.size)) w' H d S:=by
 obtain⟨G,h1,h2⟩:=h.ex
 have s:=hb.size
 refine⟨⟨G,h1.step V hb,fun j hj q=>?_⟩,fun j hj=>?_,fun j hj=>.inl (h.old j hj),below_via h.bl hb⟩
 ·rcases hj with g|g
  ·exact h2 j g q
  ·have:=h1.lt q
   have:=g.1
   omega
 ·rcases hj with g|g
  ·exact Nat.lt_of_lt_of_le (h.kl j g) s
  ·exact g.2
theorem H1.en (h:H1 T w0 K w H d S):En w:=by
 obtain⟨G,h1,h2⟩:=h.ex
 exact h1.en
theorem H1.new (V:DFace T) (room:Int) (w0 w:World) (K:Nat->Prop) (en:En w) (h0:0<=room) (h1:room<=100000) (kl:∀ j,K j->j<w.heap.size) (old:∀ j,j<w0.heap.size->K j) (bl:Below w0.heap.size w0 w) :
  Calls Tryz.prog 7 #[.int .i64 room] w fun e w'=>∃ H,e=.returned (.tuple #[.pointer (some ⟨H,0,none⟩),.nilIface])/\H1 T w0 K w' H (dk0 room) []/\Below w.heap.size w w':=by
 refine (hallNew V room en h0 h1).mono ?_
 rintro e w' ⟨H,G,rfl,hl,lo,hb⟩
 exact⟨H,rfl,⟨⟨G,hl,fun j hj q=>by have:=kl j hj;have:=lo j q;omega⟩,fun j hj=>Nat.lt_of_lt_of_le (kl j hj) hb.size,old,below_via bl hb⟩,hb⟩
theorem H1.open (V:DFace T) {k:Nat} (who:ByteArray) (h:H1 T w0 K w H d S) (dp:Dp k d) (hk:k<=800) (hw:who.size<=maxLen) (hS:S.length<=1000) :
  Calls Tryz.prog 8 #[.pointer (some ⟨H,0,none⟩),.string who] w fun e w'=>e=.returned (ev (hoF d S who))/\H1 T w0 K w' H (hoD d S who) (hoS d S who)/\But (fun j=>¬ K j) w w':=by
 obtain⟨G,h1,h2⟩:=h.ex
 refine (hallOpen V h1 dp.ok (dp.sm (by omega)) who hw hS).mono ?_
 rintro e w' ⟨rfl,hp⟩
 exact⟨rfl,h.op h2 hp⟩
theorem H1.ask (V:DFace T) {k:Nat} (who:ByteArray) (c:Cl) (h:H1 T w0 K w H d S) (dp:Dp k d) (hk:k<=800) (hw:who.size<=maxLen) :
  Calls Tryz.prog 11 #[.pointer (some ⟨H,0,none⟩),.string who,clV c] w fun e w'=>∃ u,e=.returned (.tuple #[anV (haA d S who c) u,ev (haF d S who c)])/\w'.ownsRow w.heap.size 31 2 u (haA d S who c).l.length (pfV (haA d S who c).l)/\H1 T w0 (fun j=>K j \/ u.ownBlock=some j) w' H (haD d S who c) S/\But (fun j=>¬ K j) w w':=by
 obtain⟨G,h1,h2⟩:=h.ex
 refine (hallAsk V h1 dp.ok (dp.sm (by omega)) who hw c).mono ?_
 rintro e w' ⟨u,rfl,row,G',g1,g2,g3,g4⟩
 obtain⟨q1,q2⟩:=h.op h2 ⟨G',g1,g2,g3⟩
 have s:=g3.size
 refine⟨u,rfl,row,⟨⟨G',g1,fun j hj q=>?_⟩,fun j hj=>?_,fun j hj=>.inl (h.old j hj),q1.bl⟩,q2⟩
 ·rcases hj with g|g
  ·rcases g2 j q with z|z
   ·exact h2 j g z
   ·have:=h.kl j g
    have:=z.1
    omega
  ·exact g4 j g q
 ·rcases hj with g|g
  ·exact Nat.lt_of_lt_of_le (h.kl j g) s
  ·exact (row.lt j g).2
theorem H1.close (V:DFace T) {k:Nat} (who:ByteArray) (h:H1 T w0 K w H d S) (dp:Dp k d) (hk:k<=800) (hw:who.size<=maxLen) :
  Calls Tryz.prog 10 #[.pointer (some ⟨H,0,none⟩),.string who] w fun e w'=>e=.returned (.tuple #[.int .i64 (hcN d S who),ev (hcF d S who)])/\H1 T w0 K w' H (hcD d S who) (sDel S who)/\But (fun j=>¬ K j) w w':=by
 obtain⟨G,h1,h2⟩:=h.ex
 refine (hallClose V h1 dp.ok (dp.sm (by omega)) dp.spz who hw).mono ?_
 rintro e w' ⟨rfl,hp⟩
 exact⟨rfl,h.op h2 hp⟩
theorem H1.quit (V:DFace T) {k:Nat} (who:ByteArray) (h:H1 T w0 K w H d S) (dp:Dp k d) (hk:k<=800) (hw:who.size<=maxLen) :
  Calls Tryz.prog 9 #[.pointer (some ⟨H,0,none⟩),.string who] w fun e w'=>e=.returned (ev (hqF d S who))/\H1 T w0 K w' H (hqD d S who) (sDel S who)/\But (fun j=>¬ K j) w w':=by
 obtain⟨G,h1,h2⟩:=h.ex
 refine (hallQuit V h1 dp.ok (dp.sm (by omega)) who hw).mono ?_
 rintro e w' ⟨rfl,hp⟩
 exact⟨rfl,h.op h2 hp⟩
end
end Go.Proofs.YtmghmpclmphccaaGreatDoor.Pa
namespace Go.Proofs.YtmghmpclmphccaaGreatDoor.Pa
open Go.RowKit Vs
theorem insC_len:∀ (l:List Chg) (c:Chg),(insC l c).length<=l.length+1
 | [],_=>Nat.le_refl _
 | x :: r,c=>by
  rw[insC]
  split
  ·simp
  ·split
   ·simp
   ·have:=insC_len r c
    simp only [List.length_cons]
    omega
def nw:ByteArray:=⟨#[110,101,119]⟩
structure Bt (m n:Nat) (o o':Ox):Prop where
 id:o'.id=o.id
 se:o'.sees=o.sees
 ask:o'.asked<=o.asked+m
 len:o'.own.length<=o.own.length+n
end Go.Proofs.YtmghmpclmphccaaGreatDoor.Pa
namespace Go.Proofs.YtmghmpclmphccaaGreatDoor.Pa
open Go.RowKit Vs
theorem run_none:∀ (g:Pg) (d:Dk) (i:Int),opI d i=none->runD g d i=d
 | .ret _ _,_,_,_=>rfl
 | .get k K,d,i,h=>by
  have e:dgD d i k=d:=by unfold dgD;rw[h]
  show runD (K (dgS d i k) (dgF d i k)) (dgD d i k) i=d
  rw[e]
  exact run_none _ d i h
 | .rng lo hi K,d,i,h=>by
  have e:drD d i lo hi=d:=by unfold drD;rw[h]
  show runD (K (drS d i lo hi) (drF d i)) (drD d i lo hi) i=d
  rw[e]
  exact run_none _ d i h
 | .chg c K,d,i,h=>by
  have e:dcD d i c=d:=by unfold dcD;rw[h]
  show runD (K (dcF d i c)) (dcD d i c) i=d
  rw[e]
  exact run_none _ d i h
end Go.Proofs.YtmghmpclmphccaaGreatDoor.Pa
namespace Go.Proofs.YtmghmpclmphccaaGreatDoor.Pa
open Go.RowKit Go.Maps Vs
theorem all_few {k:Nat} {d:Dk} (h:Dp k d) (hk:k<=1000):(allP d).length<=1000:=by
 have h1:=allP_len d
 have h2:=h.ok.len
 have h3:=h.wl
 unfold wt at h3
 omega
section
variable {T:Td} {w0 w w':World} {K:Nat->Prop} {H:Nat} {d:Dk} {S:Ses}
theorem H1.mine (V:DFace T) {E:Nat->Prop} (en:En w0) (h:H1 T w0 K w H d S) (hb:But E w w') (hE:∀ j,E j->K j) (hl:∀ j,E j->w0.heap.size<=j):H1 T w0 (fun j=>K j \/ (w.heap.size<=j/\j<w'.heap.size)) w' H d S:=by
 obtain⟨G,h1,h2⟩:=h.ex
 have s:=hb.size
 refine⟨⟨G,h1.but V hb (fun j hj q=>h2 j (hE j q) hj) (h1.en.but hb (fun j hj q=>by have:=en.lt q;have:=hl j hj;omega)),fun j hj q=>?_⟩,fun j hj=>?_,fun j hj=>.inl (h.old j hj),But.under2 h.bl hb h.bl.size (fun i hi g=>by have:=hl i g;omega)⟩
 ·rcases hj with g|g
  ·exact h2 j g q
  ·have:=h1.lt q
   have:=g.1
   omega
 ·rcases hj with g|g
  ·exact Nat.lt_of_lt_of_le (h.kl j g) s
  ·exact g.2
end
end Go.Proofs.YtmghmpclmphccaaGreatDoor.Pa
namespace Go.Proofs.YtmghmpclmphccaaGreatDoor.Pa
open Go.RowKit Go.Maps Vs
structure Dt where
 x:Tk
 a:Value
 b:Value
 c:Value
 us:List Value
def encT (e:Dt):List Value:=[.string e.x.who,.int .i64 e.x.num,e.a,e.b,e.c]
def encC (c:Cl):List Value:=[.int .i64 c.what,.string c.nm,.int .i64 c.p.1,.int .i64 c.p.2,.int .i64 c.len,.int .i64 c.ad,.string c.ow]
def encA (t:(An×Int)×Value):List Value:=[.int .i64 t.1.1.p.1,.int .i64 t.1.1.p.2,.int .i64 t.1.1.ad,.string t.1.1.ow,t.2]
def encB (t:An×Int):Value:=.bool (decide (t.2≠0))
theorem infoTk:(Tryz.prog.info? 40).map (fun i=>(i.zero,i.size,i.bytes))=some (some (.agg #[.string ByteArray.empty,.int .i64 0,.slice none 0 0,.slice none 0 0,.slice none 0 0]),5,96):=by kernel_rfl
theorem infoCl:(Tryz.prog.info? 33).map (fun i=>(i.zero,i.size,i.bytes))=some (some (.agg #[.int .i64 0,.string ByteArray.empty,.int .i64 0,.int .i64 0,.int .i64 0,.int .i64 0,.string ByteArray.empty]),7,72):=by kernel_rfl
theorem infoAn:(Tryz.prog.info? 46).map (fun i=>(i.zero,i.size,i.bytes))=some (some (.agg #[.int .i64 0,.int .i64 0,.int .i64 0,.string ByteArray.empty,.slice none 0 0]),5,64):=by kernel_rfl
theorem infoBo:(Tryz.prog.info? 4).map (fun i=>(i.zero,i.size,i.bytes))=some (some (.bool false),1,1):=by kernel_rfl
def Fz (X:Nat->Prop) (w:World) (e size:Nat) (v:Value) (n:Nat) (cs:List Value):Prop:=w.ownsRow 0 e size v n cs /\ ∀ j,v.ownBlock=some j->X j
theorem Fz.but {E X X':Nat->Prop} {w w':World} {e size n:Nat} {v:Value} {cs:List Value} (h:Fz X w e size v n cs) (hb:But E w w') (hE:∀ j,X j -> ¬ E j) (hX:∀ j,j<w.heap.size->X j->X' j):Fz X' w' e size v n cs:=
 ⟨op_but h.1 hb (fun j hj=>hE j (h.2 j hj)),fun j hj=>hX j (op_lt h.1 hj).2 (h.2 j hj)⟩
theorem Fz.nil (X:Nat->Prop) (w:World) (e size:Nat):Fz X w e size (.slice none 0 0) 0 []:=⟨World.ownsRow_nil _ _ _ _,fun j h=>by cases h⟩
theorem Fz.form {X:Nat->Prop} {w:World} {e size n:Nat} {v:Value} {cs:List Value} (h:Fz X w e size v n cs):∃ p c,v=.slice p n c/\n<=c/\c<=9223372036854775807:=by
 rcases h.1.2 with ⟨h2,h3⟩|⟨g,c,cur,h2,_,_,h3,h4,_⟩
 ·exact⟨none,0,by rw[h2,h3],by omega,by decide⟩
 ·exact⟨_,c,h2,h3,h4⟩
structure DtOk (X:Nat->Prop) (w:World) (e:Dt):Prop where
 a:Fz X w 33 7 e.a e.x.cs.length (e.x.cs.flatMap encC)
 b:Fz X w 46 5 e.b e.x.td.length ((e.x.td.zip e.us).flatMap encA)
 c:Fz X w 4 1 e.c e.x.td.length (e.x.td.map encB)
 u:∀ (i:Nat) (t:An×Int) (u:Value),e.x.td[i]? = some t->e.us[i]? = some u->Fz X w 31 2 u t.1.l.length (pfV t.1.l)
 n:e.x.cs.length<=1000
 l:e.x.td.length=e.x.cs.length
 m:e.us.length=e.x.td.length
theorem DtOk.but {E X X':Nat->Prop} {w w':World} {e:Dt} (h:DtOk X w e) (hb:But E w w') (hE:∀ j,X j -> ¬ E j) (hX:∀ j,j<w.heap.size->X j->X' j):DtOk X' w' e:=
 ⟨h.a.but hb hE hX,h.b.but hb hE hX,h.c.but hb hE hX,fun i t u h1 h2=>(h.u i t u h1 h2).but hb hE hX,h.n,h.l,h.m⟩
structure OwnT (n0:Nat) (K X:Nat->Prop) (w:World) (v:Value) (es:List Dt):Prop where
 row:w.ownsRow n0 40 5 v es.length (es.flatMap encT)
 blk:∀ j,v.ownBlock=some j->K j /\ ¬ X j
 each:∀ e∈es,DtOk X w e
theorem OwnT.nil (n0:Nat) (K X:Nat->Prop) (w:World):OwnT n0 K X w (.slice none 0 0) []:=⟨World.ownsRow_nil _ _ _ _,(fun j h=>by cases h),fun e h=>by simp at h⟩
theorem OwnT.but {n0:Nat} {E K K' X X':Nat->Prop} {w w':World} {v:Value} {es:List Dt} (h:OwnT n0 K X w v es) (hb:But E w w') (hv:∀ j,v.ownBlock=some j -> ¬ E j) (hE:∀ j,X j -> ¬ E j) (hX:∀ j,j<w.heap.size->X j->X' j) (hX2:∀ j,j<w.heap.size->X' j->X j) (hK:∀ j,j<w.heap.size->K j->K' j):OwnT n0 K' X' w' v es:=
 ⟨op_but h.row hb hv,fun j hj=>⟨hK j (op_lt h.row hj).2 (h.blk j hj).1,fun g=>(h.blk j hj).2 (hX2 j (op_lt h.row hj).2 g)⟩,fun e he=>(h.each e he).but hb hE hX⟩
theorem OwnT.form {n0:Nat} {K X:Nat->Prop} {w:World} {v:Value} {es:List Dt} (h:OwnT n0 K X w v es):∃ p c,v=.slice p es.length c/\es.length<=c/\c<=9223372036854775807:=by
 rcases h.row.2 with ⟨h2,h3⟩|⟨g,c,cur,h2,_,_,h3,h4,_⟩
 ·exact⟨none,0,by rw[h2,h3],by omega,by decide⟩
 ·exact⟨_,c,h2,h3,h4⟩
structure Ts (T:Td) (K X:Nat->Prop) (w wr:World) (H:Nat) (d:Dk) (S:Ses) (v1 v2:Value) (e1 e2:List Dt):Prop where
 h:H1 T w K wr H d S
 xk:∀ j,X j->K j
 r1:OwnT w.heap.size K X wr v1 e1
 r2:OwnT w.heap.size K X wr v2 e2
 ne:∀ j,v1.ownBlock=some j->v2.ownBlock≠some j
theorem sr_grown {w w':World} {v:Value} (hg:w.grownBy w' v.ownBlock):But (fun j=>v.ownBlock=some j) w w':=⟨hg.os,hg.tape,hg.output,hg.size,fun k hk hF=>hg.block k hk (fun e=>hF e.symm)⟩
section
variable {T:Td} {K X E:Nat->Prop} {w wr w':World} {H:Nat} {d d':Dk} {S S':Ses} {v1 v2 v':Value} {e1 e2:List Dt}
theorem Ts.kn (V:DFace T) (h:Ts T K X w wr H d S v1 v2 e1 e2) (hb:Below wr.heap.size wr w'):Ts T (Kn K wr w') X w w' H d S v1 v2 e1 e2:=
 ⟨h.h.step V hb,fun j hj=>.inl (h.xk j hj),h.r1.but (E:=fun _=>False) (.below hb) (fun _ _=>id) (fun _ _=>id) (fun _ _ g=>g) (fun _ _ g=>g) (fun _ _ g=>.inl g),h.r2.but (E:=fun _=>False) (.below hb) (fun _ _=>id) (fun _ _=>id) (fun _ _ g=>g) (fun _ _ g=>g) (fun _ _ g=>.inl g),h.ne⟩
theorem Ts.op (h:Ts T K X w wr H d S v1 v2 e1 e2) (o:H1 T w K w' H d' S') (hb:But (fun j=>¬ K j) wr w'):Ts T K X w w' H d' S' v1 v2 e1 e2:=
 ⟨o,h.xk,h.r1.but hb (fun j hj g=>g (h.r1.blk j hj).1) (fun j hj g=>g (h.xk j hj)) (fun _ _ g=>g) (fun _ _ g=>g) (fun _ _ g=>g),h.r2.but hb (fun j hj g=>g (h.r2.blk j hj).1) (fun j hj g=>g (h.xk j hj)) (fun _ _ g=>g) (fun _ _ g=>g) (fun _ _ g=>g),h.ne⟩
theorem Ts.ans {u:Value} (h:Ts T K X w wr H d S v1 v2 e1 e2) (o:H1 T w (fun j=>K j \/ u.ownBlock=some j) w' H d' S') (hb:But (fun j=>¬ K j) wr w') (hu:∀ j,u.ownBlock=some j->wr.heap.size<=j):Ts T (fun j=>K j \/ u.ownBlock=some j) (fun j=>X j \/ u.ownBlock=some j) w w' H d' S' v1 v2 e1 e2:=by
 have hX:∀ j,j<wr.heap.size->(X j \/ u.ownBlock=some j)->X j:=fun j hj g=>g.elim id (fun g=>by have:=hu j g;omega)
 exact⟨o,fun j hj=>hj.imp (h.xk j) id,h.r1.but hb (fun j hj g=>g (h.r1.blk j hj).1) (fun j hj g=>g (h.xk j hj)) (fun _ _ g=>.inl g) hX (fun _ _ g=>.inl g),h.r2.but hb (fun j hj g=>g (h.r2.blk j hj).1) (fun j hj g=>g (h.xk j hj)) (fun _ _ g=>.inl g) hX (fun _ _ g=>.inl g),h.ne⟩
theorem Ts.mine (V:DFace T) (en:En w) (h:Ts T K X w wr H d S v1 v2 e1 e2) (hb:But E wr w') (hE:∀ j,E j->K j/\w.heap.size<=j /\ ¬ X j/\v1.ownBlock≠some j/\v2.ownBlock≠some j):Ts T (Kn K wr w') X w w' H d S v1 v2 e1 e2:=
 ⟨h.h.mine V en hb (fun j hj=>(hE j hj).1) (fun j hj=>(hE j hj).2.1),fun j hj=>.inl (h.xk j hj),h.r1.but hb (fun j hj g=>(hE j g).2.2.2.1 hj) (fun j hj g=>(hE j g).2.2.1 hj) (fun _ _ g=>g) (fun _ _ g=>g) (fun _ _ g=>.inl g),h.r2.but hb (fun j hj g=>(hE j g).2.2.2.2 hj) (fun j hj g=>(hE j g).2.2.1 hj) (fun _ _ g=>g) (fun _ _ g=>g) (fun _ _ g=>.inl g),h.ne⟩
theorem Ts.push1 (V:DFace T) (en:En w) {e:Dt} (h:Ts T K X w wr H d S v1 v2 e1 e2) (hrow:w'.ownsRow w.heap.size 40 5 v' (e1.length+1) (e1.flatMap encT++encT e)) (hg:wr.grownBy w' v1.ownBlock) (hat:v'.ownBlock=v1.ownBlock \/ v'.ownBlock=some wr.heap.size) (he:DtOk X wr e):Ts T (Kn K wr w') X w w' H d S v' v2 (e1 ++ [e]) e2:=by
 have hb:=sr_grown hg
 have hX:∀ j,X j -> ¬ v1.ownBlock=some j:=fun j hj g=>(h.r1.blk j g).2 hj
 refine⟨h.h.mine V en hb (fun j hj=>(h.r1.blk j hj).1) (fun j hj=>(op_lt h.r1.row hj).1),fun j hj=>.inl (h.xk j hj),⟨?_,fun j hj=>?_,fun e' he'=>?_⟩,h.r2.but hb (fun j hj g=>h.ne j g hj) hX (fun _ _ g=>g) (fun _ _ g=>g) (fun _ _ g=>.inl g),fun j hj g=>?_⟩
 ·simpa using hrow
 ·rcases hat with g|g
  ·have:=h.r1.blk j (g.symm.trans hj)
   exact⟨.inl this.1,this.2⟩
  ·have e1:wr.heap.size=j:=Option.some.inj (g.symm.trans hj)
   exact⟨.inr ⟨by omega,(op_lt hrow hj).2⟩,fun q=>by have:=h.h.kl j (h.xk j q);omega⟩
 ·rcases List.mem_append.1 he' with g|g
  ·exact (h.r1.each e' g).but hb hX (fun _ _ g=>g)
  ·rw[List.mem_singleton.1 g];exact he.but hb hX (fun _ _ g=>g)
 ·rcases hat with g1|g1
  ·exact h.ne j (g1.symm.trans hj) g
  ·have e1:wr.heap.size=j:=Option.some.inj (g1.symm.trans hj)
   have:=(op_lt h.r2.row g).2;omega
theorem Ts.push2 (V:DFace T) (en:En w) {e:Dt} (h:Ts T K X w wr H d S v1 v2 e1 e2) (hrow:w'.ownsRow w.heap.size 40 5 v' (e2.length+1) (e2.flatMap encT++encT e)) (hg:wr.grownBy w' v2.ownBlock) (hat:v'.ownBlock=v2.ownBlock \/ v'.ownBlock=some wr.heap.size) (he:DtOk X wr e):Ts T (Kn K wr w') X w w' H d S v1 v' e1 (e2 ++ [e]):=by
 have h2:Ts T K X w wr H d S v2 v1 e2 e1:=⟨h.h,h.xk,h.r2,h.r1,fun j hj g=>h.ne j g hj⟩
 have h3:=h2.push1 V en hrow hg hat he
 exact⟨h3.h,h3.xk,h3.r2,h3.r1,fun j hj g=>h3.ne j g hj⟩
theorem Ts.swap {n:Nat} {es:List Dt} (h:Ts T K X w wr H d S v1 v2 e1 e2) (hrow:wr.ownsRow n 40 5 v' es.length (es.flatMap encT)) (hn:w.heap.size<=n) (hK:∀ j,n<=j->j<wr.heap.size->K j /\ ¬ X j/\v2.ownBlock≠some j) (hes:∀ e∈es,DtOk X wr e):Ts T K X w wr H d S v' v2 es e2:=
 ⟨h.h,h.xk,⟨ownMono hn hrow,fun j hj=>⟨(hK j (op_lt hrow hj).1 (op_lt hrow hj).2).1,(hK j (op_lt hrow hj).1 (op_lt hrow hj).2).2.1⟩,hes⟩,h.r2,fun j hj=>(hK j (op_lt hrow hj).1 (op_lt hrow hj).2).2.2⟩
theorem Ts.freeze (V:DFace T) (h:Ts T K X w wr H d S v1 v2 e1 e2) (hb:Below wr.heap.size wr w'):Ts T (Kn K wr w') (Kn X wr w') w w' H d S v1 v2 e1 e2:=by
 have hX:∀ j,j<wr.heap.size->Kn X wr w' j->X j:=fun j hj g=>g.elim id (fun g=>by have:=g.1;omega)
 exact⟨h.h.step V hb,fun j hj=>hj.imp (h.xk j) id,h.r1.but (E:=fun _=>False) (.below hb) (fun _ _=>id) (fun _ _=>id) (fun _ _ g=>.inl g) hX (fun _ _ g=>.inl g),h.r2.but (E:=fun _=>False) (.below hb) (fun _ _=>id) (fun _ _=>id) (fun _ _ g=>.inl g) hX (fun _ _ g=>.inl g),h.ne⟩
theorem encT_set:∀ (es:List Dt) (k:Nat) (e:Dt) (a b c:Value) (us:List Value) (x:Tk),es[k]? = some e->x.who=e.x.who->x.num=e.x.num->(((es.flatMap encT).set (k*5+2) a).set (k*5+3) b).set (k*5+4) c=(es.set k ⟨x,a,b,c,us⟩).flatMap encT
 | e0 :: r,0,e,a,b,c,us,x,h,h1,h2=>by
  cases (Option.some.inj h)
  simp[encT,h1,h2]
 | e0 :: r,k+1,e,a,b,c,us,x,h,h1,h2=>by
  have:=encT_set r k e a b c us x (by simpa using h) h1 h2
  rw[List.flatMap_cons,List.set_cons_succ,List.flatMap_cons,<- this]
  have hl:(encT e0).length=5:=rfl
  rw[List.set_append_right _ _ (by rw[hl];omega),List.set_append_right _ _ (by rw[hl];omega),List.set_append_right _ _ (by rw[hl];omega),hl,show (k+1)*5+2 - 5=k*5+2 from by omega,show (k+1)*5+3 - 5=k*5+3 from by omega,show (k+1)*5+4 - 5=k*5+4 from by omega]
theorem set_app {l r:List Value} {j:Nat} {u:Value} (h:j<l.length):(l++r).set j u=l.set j u++r:=by
 rw[List.set_append_left _ _ h]
theorem encT_len (es:List Dt):(es.flatMap encT).length=es.length*5:=flat_len (k:=5) (fun _=>rfl) es
theorem Ts.put (V:DFace T) (en:En w) {g n c k:Nat} {va vb vc:Value} {us:List Value} {e:Dt} {x:Tk} (h:Ts T K X w wr H d S (.slice (some ⟨g,0,none⟩) n c) v2 e1 e2) (hk:e1[k]? = some e) (h1:x.who=e.x.who) (h2:x.num=e.x.num) (he:DtOk X wr ⟨x,va,vb,vc,us⟩) :
  Ts T (Kn K wr (((wr.setCell ⟨g,k*5+2,none⟩ va).setCell ⟨g,k*5+3,none⟩ vb).setCell ⟨g,k*5+4,none⟩ vc)) X w (((wr.setCell ⟨g,k*5+2,none⟩ va).setCell ⟨g,k*5+3,none⟩ vb).setCell ⟨g,k*5+4,none⟩ vc) H d S (.slice (some ⟨g,0,none⟩) n c) v2 (e1.set k ⟨x,va,vb,vc,us⟩) e2:=by
 have hb:But (fun j=>j=g) wr (((wr.setCell ⟨g,k*5+2,none⟩ va).setCell ⟨g,k*5+3,none⟩ vb).setCell ⟨g,k*5+4,none⟩ vc):=by
  have f:∀ {W:World},But (fun j=>j=g) wr W -> ∀ (o:Nat) (u:Value),But (fun j=>j=g) wr (W.setCell ⟨g,o,none⟩ u):=fun hW o u=>hW.setCell (p:=⟨g,o,none⟩) (.inl rfl) u
  exact f (f (f (.refl _ _) _ _) _ _) _ _
 have hg:=h.r1.blk g rfl
 have hX:∀ j,X j -> ¬ j=g:=fun j hj e=>hg.2 (e ▸ hj)
 have hn:n=e1.length:=by
  rcases h.r1.row.2 with ⟨h0,_⟩|⟨g',c',cur,h0,_⟩
  ·cases h0
  ·cases h0;rfl
 subst hn
 have hkl:k<e1.length:=(List.getElem?_eq_some_iff.1 hk).1
 obtain⟨rest,hR,hBg,hnc,hmx,hlr⟩:=rowIn_own h.r1.row
 have hl5:=encT_len e1
 refine⟨h.h.mine V en hb (fun j hj=>by rw[hj];exact hg.1) (fun j hj=>by rw[hj];exact (op_lt h.r1.row rfl).1),fun j hj=>.inl (h.xk j hj),⟨?_,fun j hj=>⟨.inl (h.r1.blk j hj).1,(h.r1.blk j hj).2⟩,fun e' he'=>?_⟩,h.r2.but hb (fun j hj e=>h.ne j (by rw[e];rfl) hj) hX (fun _ _ g=>g) (fun _ _ g=>g) (fun _ _ g=>.inl g),h.ne⟩
 ·have hR':=((hR.set (k*5+2) va).set (k*5+3) vb).set (k*5+4) vc
  rw[set_app (by omega),set_app (by rw[List.length_set];omega),set_app (by rw[List.length_set,List.length_set];omega),encT_set e1 k e va vb vc us x hk h1 h2] at hR'
  rw[List.length_set]
  exact own_rowIn hR' (by rw[encT_len,List.length_set]) hBg hnc hmx (by rw[List.length_append,encT_len,List.length_set,<- hl5,<- List.length_append];exact hlr)
 ·rcases List.mem_or_eq_of_mem_set he' with g'|g'
  ·exact (h.r1.each e' g').but hb hX (fun _ _ g=>g)
  ·rw[g'];exact he.but hb hX (fun _ _ g=>g)
end
theorem encT_at:∀ (l:List Dt) (i:Nat) (e:Dt),l[i]? = some e->(l.flatMap encT)[i*5]? = some (.string e.x.who)/\(l.flatMap encT)[i*5+1]? = some (.int .i64 e.x.num)/\(l.flatMap encT)[i*5+2]? = some e.a/\(l.flatMap encT)[i*5+3]? = some e.b/\(l.flatMap encT)[i*5+4]? = some e.c
 | y :: r,0,x,h=>by cases (Option.some.inj h);exact⟨rfl,rfl,rfl,rfl,rfl⟩
 | y :: r,i+1,x,h=>by
  have:=encT_at r i x (by simpa using h)
  rw[List.flatMap_cons]
  have f:∀ j,(encT y++r.flatMap encT)[(i+1)*5+j]? = (r.flatMap encT)[i*5+j]? := fun j=>by
   rw[List.getElem?_append_right (by show 5<=_;omega),show (i+1)*5+j - (encT y).length=i*5+j from by show (i+1)*5+j - 5=_;omega]
  exact⟨(f 0).trans this.1,(f 1).trans this.2.1,(f 2).trans this.2.2.1,(f 3).trans this.2.2.2.1,(f 4).trans this.2.2.2.2⟩
theorem OwnT.at {n0:Nat} {K X:Nat->Prop} {w:World} {p:Option Addr} {c:Nat} {es:List Dt} (h:OwnT n0 K X w (.slice p es.length c) es) {i:Nat} {e:Dt} (hi:es[i]? = some e):∃ g,p=some ⟨g,0,none⟩/\g<w.heap.size/\K g/\w.cell? ⟨g,i*5,none⟩=some (.string e.x.who)/\w.cell? ⟨g,i*5+1,none⟩=some (.int .i64 e.x.num)/\w.cell? ⟨g,i*5+2,none⟩=some e.a/\w.cell? ⟨g,i*5+3,none⟩=some e.b/\w.cell? ⟨g,i*5+4,none⟩=some e.c:=by
 have hlt:=(List.getElem?_eq_some_iff.1 hi).1
 rcases h.row.2 with ⟨_,h0⟩|⟨g,c',cur,h0,_,hg,_⟩
 ·omega
 ·cases h0
  obtain⟨a0,a1,a2,a3,a4⟩:=encT_at es i e hi
  exact⟨g,rfl,(Array.getElem?_eq_some_iff.1 hg).1,(h.blk g rfl).1,(h.row.cellAt _ (by omega)).trans a0,(h.row.cellAt _ (by omega)).trans a1,(h.row.cellAt _ (by omega)).trans a2,(h.row.cellAt _ (by omega)).trans a3,(h.row.cellAt _ (by omega)).trans a4⟩
structure Tb (w:World) (b:Nat) (e:Dt):Prop where
 c0:w.cell? ⟨b,0,none⟩=some (.string e.x.who)
 c1:w.cell? ⟨b,1,none⟩=some (.int .i64 e.x.num)
 c2:w.cell? ⟨b,2,none⟩=some e.a
 c3:w.cell? ⟨b,3,none⟩=some e.b
 c4:w.cell? ⟨b,4,none⟩=some e.c
theorem Tb.lt {w:World} {b:Nat} {e:Dt} (h:Tb w b e):b<w.heap.size:=World.block_lt_of_cell? _ _ h.c0
theorem Tb.but {F:Nat->Prop} {w w':World} {b:Nat} {e:Dt} (h:Tb w b e) (hb:But F w w') (hF:¬ F b):Tb w' b e:=
 ⟨(hb.cell (p:=⟨b,0,none⟩) h.lt hF).trans h.c0,(hb.cell (p:=⟨b,1,none⟩) h.lt hF).trans h.c1,(hb.cell (p:=⟨b,2,none⟩) h.lt hF).trans h.c2,(hb.cell (p:=⟨b,3,none⟩) h.lt hF).trans h.c3,(hb.cell (p:=⟨b,4,none⟩) h.lt hF).trans h.c4⟩
theorem Tb.step {w w':World} {b:Nat} {e:Dt} (h:Tb w b e) (hb:Below w.heap.size w w'):Tb w' b e:=h.but (F:=fun _=>False) (.below hb) id
theorem Tb.new (w:World) (t:Nat) (e:Dt):Tb (w.alloc (.cells #[.string e.x.who,.int .i64 e.x.num,e.a,e.b,e.c] t)) w.heap.size e:=⟨by simp,by simp,by simp,by simp,by simp⟩
end Go.Proofs.YtmghmpclmphccaaGreatDoor.Pa
namespace Go.Proofs.YtmghmpclmphccaaGreatDoor.Pa
open Go.RowKit Vs
theorem answersSame (a:An) (p q:Option Addr) (cp cq:Nat) (w:World) (hl:a.l.length<=9223372036854775807) (hp:Ta.SpAt w p a.l) (hq:Ta.SpAt w q a.l) :
  Calls Tryz.prog 13 #[anV a (.slice p a.l.length cp),anV a (.slice q a.l.length cq)] w fun e w'=>e=.returned (.bool true)/\Below w.heap.size w w':=by
 obtain⟨W,hW⟩:∃ W,W=(w.alloc (.cells #[.int .i64 a.p.1,.int .i64 a.p.2,.int .i64 a.ad,.string a.ow,.slice p a.l.length cp] 46)).alloc (.cells #[.int .i64 a.p.1,.int .i64 a.p.2,.int .i64 a.ad,.string a.ow,.slice q a.l.length cq] 46):=⟨_,rfl⟩
 have bW:Below w.heap.size w W:=by rw[hW];exact below_al (below_al (below_self w) _) _
 obtain⟨bb,hbb⟩:∃ bb,bb=w.heap.size:=⟨_,rfl⟩
 have a1:Ab W bb (.int .i64 a.p.1) (.int .i64 a.p.2) (.int .i64 a.ad) (.string a.ow) (.slice p a.l.length cp):=by
  rw[hW,hbb];exact (Ab.new w _ _ _ _ _ _).step (below_al (below_self _) _)
 have a2:Ab W (bb+1) (.int .i64 a.p.1) (.int .i64 a.p.2) (.int .i64 a.ad) (.string a.ow) (.slice q a.l.length cq):=by
  have:=Ab.new (w.alloc (.cells #[.int .i64 a.p.1,.int .i64 a.p.2,.int .i64 a.ad,.string a.ow,.slice p a.l.length cp] 46)) (.int .i64 a.p.1) (.int .i64 a.p.2) (.int .i64 a.ad) (.string a.ow) (.slice q a.l.length cq) 46
  rw[World.size_alloc] at this
  rw[hW,hbb];exact this
 have K:=Ta.prefixes_same p q cp cq a.l W hl (hp.step bW) (hq.step bW)
 have step1:∀ {w1:World},Below W.heap.size W w1->Ab w1 bb (.int .i64 a.p.1) (.int .i64 a.p.2) (.int .i64 a.ad) (.string a.ow) (.slice p a.l.length cp)/\Ab w1 (bb+1) (.int .i64 a.p.1) (.int .i64 a.p.2) (.int .i64 a.ad) (.string a.ow) (.slice q a.l.length cq):=fun hb=>⟨a1.step hb,a2.step hb⟩
 have BW:Hid (Below w.heap.size w W):=bW
 obtain⟨x0,x1,x2,x3,x4,_,_,_,_,_⟩:=id a1
 obtain⟨y0,y1,y2,y3,y4,_,_,_,_,_⟩:=id a2
 subst hbb
 clear bW
 go_enter Tryz.func13,Tryz.ntmps13
 go_wp2_with (go_at_call 33;rw[<- hW];refine K.mono ?_;clear K;rintro e w1 ⟨rfl,hb1⟩;obtain⟨c1,c2⟩:=step1 hb1;obtain⟨x0,x1,x2,x3,x4,_,_,_,_,_⟩:=id c1;obtain⟨y0,y1,y2,y3,y4,_,_,_,_,_⟩:=id c2)
 go_ret
 exact⟨rfl,below_via BW.out hb1⟩
end Go.Proofs.YtmghmpclmphccaaGreatDoor.Pa
namespace Go.Proofs.YtmghmpclmphccaaGreatDoor.Pa
open Go.RowKit Vs
structure Kq (d d':Dk):Prop where
 ls:d'.lg.ls=d.lg.ls
 sf:sfN d<=sfN d'
structure Kr (d d':Dk):Prop where
 ls:∃ own,d'.lg.ls=d.lg.ls ++ [own]
 sf:sfN d<=sfN d'
theorem Kq.of {d d':Dk} (h:d'.lg=d.lg):Kq d d':=⟨by rw[h],by unfold sfN;rw[h];exact Nat.le_refl _⟩
theorem kq_bg (d:Dk):Kq d (bgD d):=.of (wt_bg d).2.2.1
theorem kq_run {d:Dk} (h:OkD d) (c:Cl) (i:Int):(runD (doP c) d i).lg=d.lg:=by
 cases e:opI d i with
 | none=>rw[run_none _ d i e]
 | some o=>
  obtain⟨_,_,r3⟩:=run_lo (doP c) d i o h.ids e
  rw[r3]
  rfl
theorem kq_cm {d:Dk} (h:OkD d) (i:Int):(Kq d (cmD d i)/\(cmF d i=0 -> ¬ cmN d i=((wasT d.lg.ls).length:Int))) \/ (Kr d (cmD d i)/\cmF d i=0/\cmN d i=((wasT d.lg.ls).length:Int)):=by
 have hl:((wasT d.lg.ls).length:Int)=d.last+1:=by rw[wasT_len,h.last];omega
 rcases cm_cases h i with ⟨h1,h2,h3,h4,h5⟩|⟨own,h0,h1,h2,h3,h4,h5,h6⟩
 ·exact .inl ⟨⟨h1,by unfold sfN;rw[h1,h3];exact Nat.le_refl _⟩,fun g=>by have:=h5 g;omega⟩
 ·exact .inr ⟨⟨⟨own,h1⟩,by unfold sfN;rw[h1,h3];exact fitL_more _ _ _⟩,h5,by omega⟩
theorem kq_close {d:Dk} (h:OkD d) (S:Ses) (who:ByteArray):(Kq d (hcD d S who)/\(hcF d S who=0 -> ¬ hcN d S who=((wasT d.lg.ls).length:Int))) \/ (Kr d (hcD d S who)/\hcF d S who=0/\hcN d S who=((wasT d.lg.ls).length:Int)):=by
 unfold hcD hcF hcN
 cases sId S who with
 | none=>exact .inl ⟨.of rfl,fun g=>by cases g⟩
 | some i=>exact kq_cm h i
theorem kq_open (d:Dk) (S:Ses) (who:ByteArray):Kq d (hoD d S who):=by
 unfold hoD
 split
 ·exact kq_bg d
 ·exact .of rfl
theorem kq_quit (d:Dk) (S:Ses) (who:ByteArray):Kq d (hqD d S who):=by
 unfold hqD
 split
 ·exact .of rfl
 ·exact .of rfl
end Go.Proofs.YtmghmpclmphccaaGreatDoor.Pa
namespace Go.Proofs.YtmghmpclmphccaaGreatDoor.Pa
open Go.RowKit Go.Maps Vs
def ca:Cl:=⟨1,⟨#[120]⟩,(0,0),0,0,⟨#[111]⟩⟩
def cc:Cl:=⟨2,⟨#[120]⟩,(256,24),0,0,⟨#[111]⟩⟩
def ce:Cl:=⟨7,⟨#[120]⟩,(256,24),0,0,⟨#[111]⟩⟩
def nxD (d:Dk) (c:Cl):Dk:=cmD (onX d c) (bgN d)
theorem na:bgF (dk0 1000)=0/\onG (dk0 1000) ca=0/\cmF (onX (dk0 1000) ca) (bgN (dk0 1000))=0:=by decide +kernel
theorem nc:bgF (nxD (dk0 1000) ca)=0/\onG (nxD (dk0 1000) ca) cc=0/\cmF (onX (nxD (dk0 1000) ca) cc) (bgN (nxD (dk0 1000) ca))=0:=by decide +kernel
theorem nf:bgF (nxD (nxD (dk0 1000) ca) cc)=0/\onG (nxD (nxD (dk0 1000) ca) cc) ce=0/\cmF (onX (nxD (nxD (dk0 1000) ca) cc) ce) (bgN (nxD (nxD (dk0 1000) ca) cc))=0/\cmN (onX (nxD (nxD (dk0 1000) ca) cc) ce) (bgN (nxD (nxD (dk0 1000) ca) cc))=3/\(runA (doP ce) (bgD (nxD (nxD (dk0 1000) ca) cc)) (bgN (nxD (nxD (dk0 1000) ca) cc))).ad=257:=by decide +kernel
theorem nx_dp {k:Nat} {d:Dk} (c:Cl) (h:Dp k d):Dp (k+2) (nxD d c):=by
 obtain⟨o1,o2,o3,o4⟩:=on_good c h.ok h.spz
 have:=h.wl
 have:=h.ids
 exact (Dp.mk (k:=k+1) o1 (by omega) (by omega) o4).cm (bgN d)
section
variable {T:Td} {w:World} {F:Nat->Prop} {B:Nat} {d:Dk}
theorem onceForm (V:DFace T) (c:Cl) {H M k:Nat} (ad n:Int) (h:Ds T w F B d) (dp:Dp k d) (hk:k<=800) (hh:Hh w H B M) (nH:¬ F H) (g1:bgF d=0) (g2:onG d c=0) (g3:cmF (onX d c) (bgN d)=0) (ga:(runA (doP c) (bgD d) (bgN d)).ad=ad) (gn:cmN (onX d c) (bgN d)=n) :
  Calls Tryz.prog 16 #[.pointer (some ⟨H,0,none⟩),clV c] w fun e w'=>∃ (p1 p2:Int) (ow:ByteArray) (pu:Option Addr) (m cu:Nat),e=.returned (.tuple #[.agg #[.int .i64 p1,.int .i64 p2,.int .i64 ad,.string ow,.slice pu m cu],.int .i64 n,.nilIface]) /\ ∃ F',Ds T w' F' B (nxD d c)/\(∀ j,F' j->Nw F w w' j)/\But F w w'/\Hh w' H B M /\ ¬ F' H:=by
 refine (hlOnceOk V c h dp.ok (Nat.le_trans dp.wl hk) (by have:=dp.ids;omega) dp.spz hh nH g1 g2 g3).mono ?_
 rintro e w' ⟨u,rfl,row,rest⟩
 obtain⟨pu,cu,rfl⟩:=own_form row
 rw[gn,<- ga]
 exact⟨_,_,_,_,_,_,rfl,rest⟩
theorem topOne (V:DFace T) (en:En w) :
  Calls Tryz.prog 6 #[] w fun e w'=>e=.returned (.bool true)/\Below w.heap.size w w':=by
 have K0:=hlNew V 1000 en (by decide) (by decide)
 have da:=Dp.new (room:=1000) (by decide) (by decide)
 have db:=nx_dp ca da
 have dc:=nx_dp cc db
 have KA:=fun {w:World} {F:Nat->Prop} {B H M:Nat} (h:Ds T w F B (dk0 1000)) (hh:Hh w H B M) (nH:¬ F H)=>onceForm V ca _ _ h da (by decide) hh nH na.1 na.2.1 na.2.2 rfl rfl
 have KC:=fun {w:World} {F:Nat->Prop} {B H M:Nat} (h:Ds T w F B (nxD (dk0 1000) ca)) (hh:Hh w H B M) (nH:¬ F H)=>onceForm V cc _ _ h db (by decide) hh nH nc.1 nc.2.1 nc.2.2 rfl rfl
 have KE:=fun {w:World} {F:Nat->Prop} {B H M:Nat} (h:Ds T w F B (nxD (nxD (dk0 1000) ca) cc)) (hh:Hh w H B M) (nH:¬ F H)=>onceForm V ce _ _ h dc (by decide) hh nH nf.1 nf.2.1 nf.2.2.1 nf.2.2.2.2 nf.2.2.2.1
 generalize nxD (nxD (nxD (dk0 1000) ca) cc) ce=x3 at KE
 generalize nxD (nxD (dk0 1000) ca) cc=x2 at KE KC dc
 generalize nxD (dk0 1000) ca=x1 at KC KA db dc
 generalize (runA (doP cc) (bgD x1) (bgN x1)).ad=ad2 at KC
 generalize cmN (onX x1 cc) (bgN x1)=nn2 at KC
 generalize (runA (doP ca) (bgD (dk0 1000)) (bgN (dk0 1000))).ad=ad1 at KA
 generalize cmN (onX (dk0 1000) ca) (bgN (dk0 1000))=nn1 at KA
 generalize dk0 1000=x0 at K0 KA da
 have lower:∀ {wa wb:World} {F1 F2:Nat->Prop},(∀ j,F1 j->w.heap.size<=j)->w.heap.size<=wa.heap.size->(∀ j,F2 j->Nw F1 wa wb j) -> ∀ j,F2 j->w.heap.size<=j:=fun a b c j hj=>(c j hj).elim (a j) (fun g=>Nat.le_trans b g.1)
 have under:∀ {wa wb:World} {F1:Nat->Prop},Below w.heap.size w wa->But F1 wa wb->(∀ j,F1 j->w.heap.size<=j)->Below w.heap.size w wb:=fun a b c=>But.under2 a b a.size (fun i hi q=>by have:=c i q;omega)
 go_enter Tryz.func6,Tryz.ntmps6
 go_wp2_with (first
  | (go_at_call 7;refine K0.mono ?_;clear K0;rintro e w1 ⟨H,B,M,F1,rfl,h1,hh1,-,n1,-,-,l1,-,-,b1⟩)
  | (go_at_call 16;refine (KA h1 hh1 n1).mono ?_;clear KA;rintro e w2 ⟨p1,p2,ow,pu,m,cu,rfl,F2,h2,nx2,bt2,hh2,n2⟩;have l2:=lower l1 b1.size nx2;have b2:=under b1 bt2 l1;clear h1 hh1 n1 l1 b1 bt2 nx2)
  | (go_at_call 16;refine (KC (h2.step V (below_al (below_self w2) _)) (hh2.step (below_al (below_self w2) _)) n2).mono ?_;clear KC;rintro e w3 ⟨p1',p2',ow',pu',m',cu',rfl,F3,h3,nx3,bt3,hh3,n3⟩;have l3:=lower l2 (below_via b2 (below_al (below_self w2) _)).size nx3;have b3:=under (below_via b2 (below_al (below_self w2) _)) bt3 l2;clear h2 hh2 n2 l2 b2 bt3 nx3)
  | (go_at_call 16;refine (KE (h3.step V (below_al (below_self w3) _)) (hh3.step (below_al (below_self w3) _)) n3).mono ?_;clear KE;rintro e w4 ⟨p1'',p2'',ow'',pu'',m'',cu'',rfl,F4,h4,nx4,bt4,hh4,n4⟩;have b4:=under (below_via b3 (below_al (below_self w3) _)) bt4 l3;clear h3 hh3 n3 l3 b3 bt4 nx4))
 exact bodyPost_ret (v:=.bool true) (by simp[results,Tryz.results6,go_sem]) rfl ⟨rfl,by repeat (first|exact b4|exact below_via b4 (below_al (below_self w4) _)|exact (below_via b4 (below_al (below_self w4) _)).drew)⟩
end
end Go.Proofs.YtmghmpclmphccaaGreatDoor.Pa
